/- In a full log nothing is reserved, and nothing is written: the law answers true for every config, thread and words, and changes nothing. Conditions: none. -/
import Derived.Test.YtfbobdkfibhcnaaGreatKRetC
import Derived.Test.YtfbobdkfibhcnaaGreatKOne
import Derived.Test.YtfbobdkfibhcnaaGreatCfgV
import Derived.Test.YtfbobdkfibhcnaaGreatArgs
import Derived.Test.YtfbobdkfibhcnaaGreatLineLaw
namespace Go.Proofs.YtfbobdkfibhcnaaGreat
open Go.ChangeShapes Go.WideShapes Go.ChangeAt Go.RowKit
set_option linter.unusedVariables false

theorem log_in {t s l b i n : Nat} (hi : i < t) (hn : n < l) : 0 ≤ logN (layF t s l b) i n ∧ logN (layF t s l b) i n < (wN t s l b : Int) * 8 := by
  obtain ⟨j, hj, e⟩ := NM.getD_mem (NM.mem_log t s l b i n hi hn)
  have hf := NM.fits_last t s l b j hj
  rw [e] at hf
  simp only at hf
  have e1 : toldF (layF t s l b) 8 i n = logN (layF t s l b) i n := rfl
  rw [e1] at hf
  have hlen := NM.last_len t s l b
  have hlen2 : (NM.last t s l b).length = wN t s l b * 8 := by rw [hlen, Nat.mul_comm]; rfl
  rcases hf with hf | ⟨_, _, hf⟩
  · omega
  · rw [hf]
    omega
theorem log_inj {t s l b i n n' : Nat} (hi : i < t) (hn : n < l) (hn' : n' < l) (h : logN (layF t s l b) i n = logN (layF t s l b) i n') : n = n' := by
  have key : ∀ m : Nat, m < l → logN (layF t s l b) i m = layF t s l b 15 + (i : Int) * layF t s l b 16 + (m : Int) := fun m hm => by
    have e : logN (layF t s l b) i m = if 0 ≤ (m : Int) ∧ (m : Int) < (l : Int) then wordAt (layF t s l b 4) (layF t s l b 15) (layF t s l b 16) (t : Int) i m else layF t s l b 4 * 8 := rfl
    rw [e, if_pos ⟨by omega, by omega⟩]
    unfold wordAt
    rw [if_pos ⟨by omega, by omega⟩]
  rw [key n hn, key n' hn'] at h
  omega
/-- A Reserve in a full log, behind k steps. -/
structure FullAt (F : Nat → Int) (l k : Nat) (st : MSt) (p : RvM × MSt) : Prop where
  x : p.1 = ⟨((min k l : Nat) : Int), 0, decide (l ≤ k)⟩
  v : ∀ a, peekV p.2 a = peekV st a
  c : p.2.clock = st.clock + ((min k l : Nat) : Int)
  k : 0 < k → p.2.last.k = 1
theorem load_k (s : MSt) (t a : Int) : (s.load t a).last.k = 1 := by
  unfold MSt.load
  split <;> rfl
theorem full_run {F : Nat → Int} {l : Nat} {th : Int} {st : MSt} (hL : F 2 = (l : Int)) (h0 : 0 < l) (hv : ∀ n : Nat, n < l → peekV st (logN F th n) ≠ 0) : ∀ k : Nat, FullAt F l k st (stepsR (rvS F th 0) (⟨0, 0, false⟩, st) k)
  | 0 => ⟨by show (⟨0, 0, false⟩ : RvM) = _; rw [Nat.zero_min]; congr 1; simp; omega, fun _ => rfl, by show st.clock = _; rw [Nat.zero_min]; simp, fun h => absurd h (by omega)⟩
  | k + 1 => by
    obtain ⟨hx, hpv, hc, hk⟩ := full_run hL h0 hv k
    show FullAt F l (k + 1) st (rvS F th 0 (stepsR (rvS F th 0) (⟨0, 0, false⟩, st) k).1 (stepsR (rvS F th 0) (⟨0, 0, false⟩, st) k).2)
    generalize stepsR (rvS F th 0) (⟨0, 0, false⟩, st) k = p at *
    obtain ⟨x, s⟩ := p
    simp only at hx hpv hc hk
    subst hx
    by_cases hlk : l ≤ k
    · have e : rvS F th 0 ⟨((min k l : Nat) : Int), 0, decide (l ≤ k)⟩ s = (⟨((min k l : Nat) : Int), 0, decide (l ≤ k)⟩, s) := by
        unfold rvS
        rw [if_pos (by simpa using hlk)]
      rw [e]
      refine ⟨?_, hpv, by rw [hc, Nat.min_eq_right hlk, Nat.min_eq_right (by omega)], fun _ => hk (by omega)⟩
      rw [Nat.min_eq_right hlk, Nat.min_eq_right (show l ≤ k + 1 by omega)]
      congr 1
      simp
      omega
    · have hkl : k < l := by omega
      have ed : decide (l ≤ k) = false := by simpa using hlk
      have em : min k l = k := Nat.min_eq_left (by omega)
      rw [em, ed] at *
      have e : rvS F th 0 ⟨(k : Int), 0, false⟩ s = (if peekV s (logN F th k) = 0 then ⟨(k : Int), 1, false⟩ else ⟨(k : Int) + 1, 0, decide (F 2 ≤ (k : Int) + 1)⟩, s.load th (logN F th k)) := rfl
      rw [e, hpv, if_neg (hv k hkl)]
      refine ⟨?_, fun a => by rw [peekV_load]; exact hpv a, ?_, fun _ => load_k _ _ _⟩
      · show (⟨(k : Int) + 1, 0, decide (F 2 ≤ (k : Int) + 1)⟩ : RvM) = _
        rw [Nat.min_eq_left (show k + 1 ≤ l by omega), hL]
        have : decide ((l : Int) ≤ (k : Int) + 1) = decide (l ≤ k + 1) := by
          by_cases h : l ≤ k + 1
          · rw [decide_eq_true h, decide_eq_true (by omega)]
          · rw [decide_eq_false h, decide_eq_false (by omega)]
        rw [this]
        congr 1
      · show (s.load th (logN F th k)).clock = _
        rw [(load_parts s th (logN F th k)).2.2, hc, Nat.min_eq_left (show k + 1 ≤ l by omega)]
        omega
/-- The words that fill a log. -/
def fullP (F : Nat → Int) (th : Int) (xs : List Int) (k : Nat) : Put := (logN F th k, bits .or .u64 (xs.getD k 0) 1)
def fullPs (F : Nat → Int) (th : Int) (xs : List Int) (k : Nat) : List Put := (List.range k).map (fullP F th xs)
theorem fullPs_len (F : Nat → Int) (th : Int) (xs : List Int) (k : Nat) : (fullPs F th xs k).length = k := by simp [fullPs]
theorem fullPs_succ (F : Nat → Int) (th : Int) (xs : List Int) (k : Nat) : fullPs F th xs (k + 1) = fullPs F th xs k ++ [fullP F th xs k] := by simp [fullPs, List.range_succ]
theorem or1 (x : Int) (hx : W64 x) : bits .or .u64 x 1 ≠ 0 ∧ W64 (bits .or .u64 x 1) := by
  obtain ⟨n, rfl⟩ := Int.eq_ofNat_of_zero_le hx.1
  have hn : n < 2 ^ 64 := by have := hx.2; omega
  have e : bits .or .u64 (n : Int) 1 = ((n ||| 1 : Nat) : Int) := by
    show bits .or .u64 (n : Int) ((1 : Nat) : Int) = _
    rw [u64_or_nat n 1 (by have := hx.2; omega) (by omega)]
  rw [e]
  have h1 : (n ||| 1) < 2 ^ 64 := Nat.or_lt_two_pow hn (by decide)
  have h2 : 1 ≤ n ||| 1 := Nat.right_le_or
  exact ⟨by omega, by unfold W64; omega⟩
/-- A Reserve's run over a calm memory. -/
theorem runF {F : Nat → Int} {L : Nat} (hL : F 2 = (L : Int)) (h0 : 0 < L) (t slot : Int) (s : MSt) (h1 : Fine 30 s.dev) (h2 : CalmN 100 s) : ∀ k : Nat, k ≤ 60 → (stepsR (rvS F t slot) (⟨0, 0, false⟩, s) k).1.Wf (L : Int) ∧ Fine (30 + k) (stepsR (rvS F t slot) (⟨0, 0, false⟩, s) k).2.dev ∧ CalmN (100 + k) (stepsR (rvS F t slot) (⟨0, 0, false⟩, s) k).2
  | 0, _ => ⟨RvM.wf0 (by omega), h1, by show CalmN (100 + ((0 : Nat) : Int)) s; simpa using h2⟩
  | k + 1, hk => by
    obtain ⟨h3, h4, h5⟩ := runF hL h0 t slot s h1 h2 k (by omega)
    exact ⟨rvS_wf hL h3, rvS_fine (k := 30 + k) h4 (by omega), by have := rvS_calm (F := F) (t := t) (slot := slot) (x := (stepsR (rvS F t slot) (⟨0, 0, false⟩, s) k).1) h5; rw [show (100 : Int) + ((k + 1 : Nat) : Int) = 100 + (k : Int) + 1 by omega]; exact this⟩
/-- A log that was filled is full. -/
theorem full_ground {t s l b th : Nat} (hth : th < t) (xs : List Int) (hX : ∀ i, W64 (xs.getD i 0)) (n : Nat) (hn : n < l) : peekV (groundSt t s l b (fullPs (layF t s l b) th xs l)) (logN (layF t s l b) th n) ≠ 0 := by
  have h := (putAll_peek (MOk.start t s l b) (fullP (layF t s l b) th xs) (fun _ => Or.inr trivial) l (fun i hi => by
    have := log_in (t := t) (s := s) (l := l) (b := b) hth hi
    show -1 - ((2 + t + s : Nat) : Int) < logN (layF t s l b) th i ∧ logN (layF t s l b) th i < _
    omega) (fun i j hij hj e => by
    have := log_inj (t := t) (s := s) (l := l) (b := b) hth (show i < l by omega) hj e
    omega)).1 n hn
  have e : peekV (groundSt t s l b (fullPs (layF t s l b) th xs l)) (logN (layF t s l b) th n) = bits .or .u64 (xs.getD n 0) 1 := h
  rw [e]
  exact (or1 _ (hX n)).1
theorem fullP_fit {t s l b th k : Nat} (hth : th < t) (hk : k < l) (ht : t ≤ 6) (hs : s ≤ 30) (hl : l ≤ 8) (hb : b ≤ 8) (xs : List Int) (hX : ∀ i, W64 (xs.getD i 0)) : PutFit (fullP (layF t s l b) th xs k) := by
  have h := log_in (t := t) (s := s) (l := l) (b := b) hth hk
  have hw : wN t s l b ≤ 60 := wN_le ht hs hl hb
  exact ⟨⟨by show _ ≤ logN (layF t s l b) th k; omega, by show logN (layF t s l b) th k < _; omega⟩, (or1 _ (hX k)).2⟩
theorem fullPs_get (F : Nat → Int) (th : Int) (xs : List Int) (k i : Nat) (hi : i < k) : (fullPs F th xs k).getD i (0, 0) = fullP F th xs i := by
  unfold fullPs
  rw [List.getD_eq_getElem?_getD, List.getElem?_map, List.getElem?_range hi]
  rfl
theorem words_get (xs : List Int) (k : Nat) (hk : k < xs.length) : (xs.map (Value.int .u64))[k]? = some (.int .u64 (xs.getD k 0)) := by
  rw [List.getElem?_map, List.getD_eq_getElem?_getD, List.getElem?_eq_getElem hk]
  rfl
/-- append(row, Put{..}) in a region that draws, whatever the world. -/
theorem step_pushPutG {P : Program} {ops : Array Oper} {o : Oper} {a : Act} {K : Act → World → Prop} {Q : Exit → Act → World → Prop} {E : Prop} (hgd : o.guard = none) (s x : Operand) (t : TypeId)
    (ho : o.op = .call { callee := .builtin .append, args := #[s, x], argTypes := #[t, t] })
    (e : TypeId) (hinfo : (P.info? e).map (fun i => (i.zero, i.size, i.bytes)) = some (some (.agg #[.int .i64 0, .int .u64 0]), 2, 16)) (ht : P.underlying t = some (.slice e))
    (w0 W : World) (v : Value) (n : Nat) (us : List Value) (r0 r1 : Int) (hs : a.eval s = v) (hrow : W.ownsRow w0.heap.size e 2 v n us) (ext : Ext w0 W)
    (hx : a.eval x = .slice (some ⟨W.heap.size, 0, none⟩) 1 1) (hlen : n < 1000000)
    (h : ∀ g cap w', w'.ownsRow w0.heap.size e 2 (.slice (some ⟨g, 0, none⟩) (n + 1) cap) (n + 1) (us ++ [.int .i64 r0, .int .u64 r1]) → Ext w0 w' → Fr (fun b => v.ownBlock = some b) W w' → (v.ownBlock = some g ∨ W.heap.size ≤ g) → K (a.put o.dst (.slice (some ⟨g, 0, none⟩) (n + 1) cap)) w') :
    if Region.wanted o (yielded ops a.tmps) = true then Oper.wp P o a (W.alloc (.cells #[.int .i64 r0, .int .u64 r1] e)) K Q else E := by
  obtain ⟨i, hi, hz1, hz2, hz3⟩ := info_parts hinfo
  refine step_append_lies _ hgd s x t ho w0.heap.size e i (.agg #[.int .i64 0, .int .u64 0]) 2 16 ht hi hz1 hz2 hz3 rfl (by decide) v n us hs (World.ownsRow.alloc hrow _) ⟨W.heap.size, 0, none⟩ 1 1 [.int .i64 r0, .int .u64 r1] hx rfl ?_ ?_ (by omega) ?_ ?_ ?_ _ rfl ?_
  · intro j u' hj
    have hb := Blk.new W e [.int .i64 r0, .int .u64 r1]
    rw [at0]
    show (W.alloc (.cells #[.int .i64 r0, .int .u64 r1] e)).cell? ⟨W.heap.size, j, none⟩ = _
    rw [hb.cell j]
    exact hj
  · intro u' hu'
    simp at hu'
    rcases hu' with rfl | rfl <;> rfl
  · unfold maxLen; omega
  · omega
  · have := ext.size; simp; omega
  · intro g cap w' hown hg hat _
    have hlt := World.ownsRow.lt hrow
    refine h g cap w' hown ?_ ?_ ?_
    · exact Ext.of ((Below.alloc ext.below ext.size _).grown hg (by have := ext.size; simp; omega) (fun q hq => (hlt q hq).1))
    · have hsz := hg.size
      simp at hsz
      refine ⟨hg.os, hg.tape, hg.output, by omega, fun b hb hne => (hg.block b (by simp; omega) (fun e => hne e.symm)).trans (Below.heap_alloc _ _ _ hb)⟩
    · rcases hat with h | h
      · exact Or.inl h
      · exact Or.inr (by rw [h]; simp)

theorem fldA0 (k t a y n : Int) (d : Bool) (w : World) : (Instr.field 103 (.agg #[.int .i64 k, .int .i64 t, .int .i64 a, .int .u64 y, .int .u64 n, .bool d]) 0).run Tryz.prog w = .ok (.int .i64 k) w := by kernel_rfl
set_option maxRecDepth 100000 in
set_option maxHeartbeats 8000000 in
theorem retireFull_yes (w : World) (t s l b th : Nat) (x0 x1 x2 x3 x4 x5 x6 x7 : Int) (hg : GrOk t s l b) (hth : th < t) (hX : ∀ i, W64 ([x0, x1, x2, x3, x4, x5, x6, x7].getD i 0)) :
    Calls Tryz.prog 9 #[.agg #[.int .i64 t, .int .i64 s, .int .i64 l, .int .i64 b], .int .i64 th, .agg #[.int .u64 x0, .int .u64 x1, .int .u64 x2, .int .u64 x3, .int .u64 x4, .int .u64 x5, .int .u64 x6, .int .u64 x7]] w fun e w' => e = .returned (.bool true) ∧ Ext w w' := by
  have X0 := Lib.hid (((Ext.refl w).alloc (.cells #[.int .i64 t, .int .i64 s, .int .i64 l, .int .i64 b] 23)).alloc (.cells #[.int .u64 x0, .int .u64 x1, .int .u64 x2, .int .u64 x3, .int .u64 x4, .int .u64 x5, .int .u64 x6, .int .u64 x7] 101))
  have B0 := Lib.hid ((Blk.new w 23 [.int .i64 t, .int .i64 s, .int .i64 l, .int .i64 b]).ext ((Ext.refl _).alloc (.cells #[.int .u64 x0, .int .u64 x1, .int .u64 x2, .int .u64 x3, .int .u64 x4, .int .u64 x5, .int .u64 x6, .int .u64 x7] 101)))
  have U0 : Hid (Blk ((w.alloc (.cells #[.int .i64 t, .int .i64 s, .int .i64 l, .int .i64 b] 23)).alloc (.cells #[.int .u64 x0, .int .u64 x1, .int .u64 x2, .int .u64 x3, .int .u64 x4, .int .u64 x5, .int .u64 x6, .int .u64 x7] 101)) (w.heap.size + 1) 101 ([x0, x1, x2, x3, x4, x5, x6, x7].map (Value.int .u64))) := Lib.hid (by have := Blk.new (w.alloc (.cells #[.int .i64 t, .int .i64 s, .int .i64 l, .int .i64 b] 23)) 101 ([x0, x1, x2, x3, x4, x5, x6, x7].map (Value.int .u64)); rw [World.size_alloc] at this; exact this)
  obtain ⟨hc, h1, h2, h3, h4⟩ := id hg
  obtain ⟨⟨q0, q1⟩, ⟨q2, q3⟩, ⟨q4, q5⟩, q6, q7⟩ := id hc
  have HC : Hid (CfgN t s l b) := Lib.hid ⟨by omega, by omega, by omega, by omega, by omega⟩
  have HFe := Lib.hid (fun W => few9_yes t s l b W hg)
  have HOk := Lib.hid (okayF hc)
  have hl8 : l ≤ 8 := by omega
  have hl1 : 0 < l := by omega
  have ht6 : t ≤ 6 := by omega
  have hs30 : s ≤ 30 := by omega
  have hb8 : b ≤ 8 := by omega
  have HG := Lib.hid hg
  have HXx := Lib.hid hX
  have d0 : decide ((th : Int) < 0) = false := by simp
  have d1 : decide ((t : Int) ≤ (th : Int)) = false := by simp; omega
  have d1' : decide (t ≤ th) = false := by simp; omega
  clear hg hc h1 h2 h3 h4 q0 q1 q2 q3 q4 q5 q6 q7 hX
  go_enter Tryz.func9, Tryz.ntmps9
  go_upto_region 1 with fail
  generalize (w.alloc (.cells #[.int .i64 t, .int .i64 s, .int .i64 l, .int .i64 b] 23)).alloc (.cells #[.int .u64 x0, .int .u64 x1, .int .u64 x2, .int .u64 x3, .int .u64 x4, .int .u64 x5, .int .u64 x6, .int .u64 x7] 101) = W0 at *
  have y0 : W0.cell? ⟨w.heap.size, 0, none⟩ = some (.int .i64 t) := B0.out.cell 0
  have y1 : W0.cell? ⟨w.heap.size, 1, none⟩ = some (.int .i64 s) := B0.out.cell 1
  have y2 : W0.cell? ⟨w.heap.size, 2, none⟩ = some (.int .i64 l) := B0.out.cell 2
  have y3 : W0.cell? ⟨w.heap.size, 3, none⟩ = some (.int .i64 b) := B0.out.cell 3
  go_wp2_with fail
  refine (HFe.out _).mono ?_
  rintro e w1 ⟨rfl, xf⟩
  have B1 := Lib.hid (B0.out.ext xf)
  have U1 := Lib.hid (U0.out.ext xf)
  have X1 := Lib.hid (X0.out.trans xf)
  clear xf y0 y1 y2 y3 B0 U0 X0
  have y0 : w1.cell? ⟨w.heap.size, 0, none⟩ = some (.int .i64 t) := B1.out.cell 0
  have y1 : w1.cell? ⟨w.heap.size, 1, none⟩ = some (.int .i64 s) := B1.out.cell 1
  have y2 : w1.cell? ⟨w.heap.size, 2, none⟩ = some (.int .i64 l) := B1.out.cell 2
  have y3 : w1.cell? ⟨w.heap.size, 3, none⟩ = some (.int .i64 b) := B1.out.cell 3
  go_upto_region 4 with fail
  have X2 := Lib.hid (X1.out.alloc (.cells #[.int .i64 t, .int .i64 s, .int .i64 l, .int .i64 b, .slice none 0 0] 26))
  have B2 := Lib.hid (B1.out.ext ((Ext.refl w1).alloc (.cells #[.int .i64 t, .int .i64 s, .int .i64 l, .int .i64 b, .slice none 0 0] 26)))
  have U2 := Lib.hid (U1.out.ext ((Ext.refl w1).alloc (.cells #[.int .i64 t, .int .i64 s, .int .i64 l, .int .i64 b, .slice none 0 0] 26)))
  have G2 := Lib.hid (Blk.new w1 26 [.int .i64 t, .int .i64 s, .int .i64 l, .int .i64 b, .slice none 0 0])
  have hgu : w.heap.size + 1 < w1.heap.size := U1.out.lt
  obtain ⟨gg, hgg⟩ : ∃ gg, w1.heap.size = gg := ⟨_, rfl⟩
  rw [hgg] at G2 hgu ⊢
  generalize w1.alloc (.cells #[.int .i64 t, .int .i64 s, .int .i64 l, .int .i64 b, .slice none 0 0] 26) = W2 at *
  obtain ⟨XS, hXS⟩ : ∃ XS, [x0, x1, x2, x3, x4, x5, x6, x7] = XS := ⟨_, rfl⟩
  have hX8 : XS.length = 8 := by rw [← hXS]; rfl
  rw [hXS] at U2 HXx
  obtain ⟨F, hF⟩ : ∃ F, layF t s l b = F := ⟨_, rfl⟩
  have HRl := Lib.hid (fun W n => rlog_ok HC.out th n W)
  have HFit := Lib.hid (fun k (hk : k < l) => fullP_fit (b := b) hth hk ht6 hs30 hl8 hb8 XS HXx.out)
  have HFull := Lib.hid (fun n (hn : n < l) => full_ground (s := s) (b := b) hth XS HXx.out n hn)
  have HLay := Lib.hid (fun W A c (hY : PutsAt W A (fullPs (layF t s l b) th XS l)) => lay_ok W A l c t s l b (fullPs (layF t s l b) th XS l) HG.out (fullPs_len _ _ _ _) (by omega) hY)
  unfold GrNew at HLay
  have HF2 : Hid (F 2 = (l : Int)) := Lib.hid (by rw [← hF]; rfl)
  rw [hF] at HRl HFit HFull HOk HLay
  clear hXS hgg B1 U1 X1 hF y0 y1 y2 y3 d0 d1 d1' HFe HC HG HXx
  have HPl := Lib.hid (fullPs_len F th XS)
  have HPs := Lib.hid (fullPs_succ F th XS)
  go_wp2_with fail
  go_loopw [8] (fun i wr => ∃ (k : Nat) (v : Value), k ≤ l ∧ i = .int .i64 k ∧ PutRow wr w.heap.size v (fullPs F th XS k) ∧ Ext w wr ∧ Blk wr w.heap.size 23 [.int .i64 t, .int .i64 s, .int .i64 l, .int .i64 b] ∧ Blk wr (w.heap.size + 1) 101 (XS.map (Value.int .u64)) ∧ Blk wr gg 26 [.int .i64 t, .int .i64 s, .int .i64 l, .int .i64 b, v] ∧ (v.ownBlock ≠ some w.heap.size ∧ v.ownBlock ≠ some (w.heap.size + 1) ∧ v.ownBlock ≠ some gg)) (fun i _ => l - (intOf i).toNat)
  case atStart => exact ⟨0, _, Nat.zero_le _, rfl, PutRow.nil _ _, X2.out, B2.out, U2.out, G2.out, by simp [Value.ownBlock], by simp [Value.ownBlock], by simp [Value.ownBlock]⟩
  case round =>
    obtain ⟨k, v, hk, rfl, row, xk, k0, k1, k2, o0, o1, o2⟩ := hrel
    have RW := Lib.hid row
    have XK := Lib.hid xk
    have K0 := Lib.hid k0
    have K1 := Lib.hid k1
    have K2 := Lib.hid k2
    have OO := Lib.hid (And.intro o0 (And.intro o1 o2))
    have y0 : wr.cell? ⟨w.heap.size, 0, none⟩ = some (.int .i64 t) := k0.cell 0
    have y1 : wr.cell? ⟨w.heap.size, 1, none⟩ = some (.int .i64 s) := k0.cell 1
    have y2 : wr.cell? ⟨w.heap.size, 2, none⟩ = some (.int .i64 l) := k0.cell 2
    have y3 : wr.cell? ⟨w.heap.size, 3, none⟩ = some (.int .i64 b) := k0.cell 3
    have hs2 : gg < wr.heap.size := k2.lt
    clear row xk k0 k1 k2 o0 o1 o2 B2 U2 G2 X2
    by_cases hlt : k < l
    · have v1 : decide (k < l) = true := by simp; omega
      have v2 : decide ((k : Int) < (l : Int)) = true := by simp; omega
      have HS0 := Lib.hid (fun W (x : Ext wr W) => (⟨(K2.out.ext x).cell 4, (K0.out.ext x).cell 0, (K0.out.ext x).cell 1, (K0.out.ext x).cell 2, (K0.out.ext x).cell 3, ((K1.out.ext x).cell k).trans (words_get XS k (by omega))⟩ : W.cell? ⟨gg, 4, none⟩ = some v ∧ W.cell? ⟨w.heap.size, 0, none⟩ = some (.int .i64 t) ∧ W.cell? ⟨w.heap.size, 1, none⟩ = some (.int .i64 s) ∧ W.cell? ⟨w.heap.size, 2, none⟩ = some (.int .i64 l) ∧ W.cell? ⟨w.heap.size, 3, none⟩ = some (.int .i64 b) ∧ W.cell? ⟨w.heap.size + 1, k, none⟩ = some (.int .u64 (XS.getD k 0))))
      have HSu := Lib.hid (HPs.out k)
      have hpe : fullP F th XS k = (logN F th k, bits .or .u64 (XS.getD k 0) 1) := rfl
      rw [hpe] at HSu
      obtain ⟨z, hz⟩ : ∃ z, XS.getD k 0 = z := ⟨_, rfl⟩
      rw [hz] at HSu HS0
      have HR1 := Lib.hid (fun W => HRl.out W (k : Int))
      obtain ⟨a, ha⟩ : ∃ a, logN F th k = a := ⟨_, rfl⟩
      rw [ha] at HSu HR1
      have hk8 : k < 8 := by omega
      have HWk := Lib.hid (words_get XS k (by omega))
      rw [hz] at HWk
      have i0 : (0 : Int) ≤ (k : Int) := by omega
      have i8 : (k : Int) < 8 := by omega
      have i9 : (k : Int).toNat = k := by omega
      have i1 : decide ((0 : Int) ≤ (k : Int)) = true := by simp
      have i2 : decide ((k : Int) < 8) = true := by simp; omega
      have i3 : decide (k < 8) = true := by simp; omega
      clear hpe hz ha
      obtain ⟨c4, y0, y1, y2, y3, c5⟩ := HS0.out wr (Ext.refl _)
      have xt := Lib.hid ((Ext.refl wr).drew)
      go_wp2_with fail
      go_region_law (first
        | (refine step_pushPutG (by rfl) _ _ 24 (by rfl) 93 put_info Tryz.underlying24 w _ _ _ _ a (bits .or .u64 z 1) (by rfl) (RW.out.ext xt.out) (XK.out.trans xt.out) (by rfl) (by rw [HPl.out]; omega) ?_; intro g' cap' w' hrow' hext' hfr ho; have c4' : w'.cell? ⟨gg, 4, none⟩ = some v := ((K2.out.ext xt.out).fr hfr OO.out.2.2).cell 4; have f4' : w'.frozen? ⟨gg, 4, none⟩ = false := ((K2.out.ext xt.out).fr hfr OO.out.2.2).frozen 4)
        | (go_simp; go_at_call 42; refine (HR1.out _).mono ?_; rintro e w7 ⟨rfl, x7⟩; replace xt := Lib.hid (xt.out.trans x7); obtain ⟨c4, y0, y1, y2, y3, c5⟩ := HS0.out _ xt.out; have hz8 := xt.out.size; have ng : ¬ gg = w7.heap.size := (by omega); have ca7 : (w7.alloc (.cells #[.int .i64 a, .int .u64 (bits .or .u64 z 1)] 93)).cell? ⟨gg, 4, none⟩ = some v := ((K2.out.ext xt.out).ext ((Ext.refl _).alloc _)).cell 4; clear x7))
      all_goals
        rw [HPl.out] at hrow' ⊢
        have hz7 := xt.out.size
        have m0 : g' ≠ w.heap.size := by
          rcases ho with e | e
          · exact fun x => OO.out.1 (by rw [e, x])
          · omega
        have m1 : g' ≠ w.heap.size + 1 := by
          rcases ho with e | e
          · exact fun x => OO.out.2.1 (by rw [e, x])
          · omega
        have m2 : g' ≠ gg := by
          rcases ho with e | e
          · exact fun x => OO.out.2.2 (by rw [e, x])
          · omega
        have OV : Hid ((Value.slice (some ⟨g', 0, none⟩) (k + 1) cap').ownBlock ≠ some w.heap.size ∧ (Value.slice (some ⟨g', 0, none⟩) (k + 1) cap').ownBlock ≠ some (w.heap.size + 1) ∧ (Value.slice (some ⟨g', 0, none⟩) (k + 1) cap').ownBlock ≠ some gg) := Lib.hid ⟨fun e => m0 (by simpa [Value.ownBlock] using e), fun e => m1 (by simpa [Value.ownBlock] using e), fun e => m2 (by simpa [Value.ownBlock] using e)⟩
        have RR0 : PutRow w' w.heap.size (.slice (some ⟨g', 0, none⟩) (k + 1) cap') (fullPs F th XS (k + 1)) := by
          unfold PutRow
          rw [HSu.out, flatQ_append, List.length_append, HPl.out]
          exact hrow'
        have RR := Lib.hid (RR0.far (p := ⟨gg, 4, none⟩) OV.out.2.2 (.slice (some ⟨g', 0, none⟩) (k + 1) cap'))
        have XW := Lib.hid (hext'.setCell (p := ⟨gg, 4, none⟩) (by show w.heap.size ≤ gg; omega) (.slice (some ⟨g', 0, none⟩) (k + 1) cap'))
        have KK0 := Lib.hid (((K0.out.ext xt.out).fr hfr OO.out.1).far (p := ⟨gg, 4, none⟩) (by show w.heap.size ≠ gg; omega) (.slice (some ⟨g', 0, none⟩) (k + 1) cap'))
        have KK1 := Lib.hid (((K1.out.ext xt.out).fr hfr OO.out.2.1).far (p := ⟨gg, 4, none⟩) (by show w.heap.size + 1 ≠ gg; omega) (.slice (some ⟨g', 0, none⟩) (k + 1) cap'))
        have KK2 := Lib.hid (((K2.out.ext xt.out).fr hfr OO.out.2.2).set 4 (.slice (some ⟨g', 0, none⟩) (k + 1) cap'))
        clear c4' f4' hrow' hext' hfr ho RR0 m0 m1 m2 K0 K1 K2 RW XK OO HS0
        generalize w'.setCell ⟨gg, 4, none⟩ (.slice (some ⟨g', 0, none⟩) (k + 1) cap') = W6 at *
        go_wp2_with fail
        go_roundw
        case rel => exact ⟨k + 1, .slice (some ⟨g', 0, none⟩) (k + 1) cap', by omega, by go_num, RR.out, XW.out, KK0.out, KK1.out, KK2.out, OV.out⟩
        case measure => simp [intOf]; omega
    · have v1 : decide (k < l) = false := by simp; omega
      have v2 : decide ((k : Int) < (l : Int)) = false := by simp; omega
      obtain rfl : l = k := by omega
      have hfit : ∀ i, i < (fullPs F th XS l).length → PutFit ((fullPs F th XS l).getD i (0, 0)) := fun i hi => by
        rw [HPl.out] at hi
        rw [fullPs_get _ _ _ _ _ hi]
        exact HFit.out i hi
      obtain ⟨A', c', rfl, -, -, hY⟩ := RW.out.form hfit
      rw [HPl.out] at K2
      have HLy := Lib.hid (HLay.out wr A' c' hY)
      obtain ⟨ST, hST⟩ : ∃ ST, groundSt t s l b (fullPs F th XS l) = ST := ⟨_, rfl⟩
      have hfine : Fine 30 ST.dev := by rw [← hST]; exact (ground_fine t s l b _).le' (by omega)
      have hcalm : CalmN 100 ST := by rw [← hST]; exact ground_calm t s l b _ (by rw [fullPs_len]; omega)
      have hfull : ∀ n : Nat, n < l → peekV ST (logN F th n) ≠ 0 := fun n hn => by rw [← hST]; exact HFull.out n hn
      rw [hST] at HLy
      have hck := hcalm.1
      have hck2 := hcalm.2.1
      obtain ⟨P, hP⟩ : ∃ P : Nat → RvM × MSt, ∀ k, stepsR (rvS F th 0) (⟨0, 0, false⟩, ST) k = P k := ⟨_, fun _ => rfl⟩
      have HW : Hid (∀ k : Nat, k ≤ 60 → (P k).1.Wf (l : Int) ∧ Fine (30 + k) (P k).2.dev ∧ CalmN (100 + k) (P k).2) := Lib.hid (fun k hk => by rw [← hP]; exact runF HF2.out hl1 th 0 ST hfine hcalm k hk)
      have HFu : Hid (∀ k : Nat, FullAt F l k ST (P k)) := Lib.hid (fun k => by rw [← hP]; exact full_run HF2.out hl1 hfull k)
      have HSc : Hid (∀ k : Nat, rvS F th 0 (P k).1 (P k).2 = P (k + 1)) := Lib.hid (fun k => by rw [← hP, ← hP]; rfl)
      have hP0 : P 0 = (⟨0, 0, false⟩, ST) := (hP 0).symm
      have g0 : wr.cell? ⟨gg, 0, none⟩ = some (.int .i64 t) := K2.out.cell 0
      have g1 : wr.cell? ⟨gg, 1, none⟩ = some (.int .i64 s) := K2.out.cell 1
      have g2 : wr.cell? ⟨gg, 2, none⟩ = some (.int .i64 l) := K2.out.cell 2
      have g3 : wr.cell? ⟨gg, 3, none⟩ = some (.int .i64 b) := K2.out.cell 3
      have g4 : wr.cell? ⟨gg, 4, none⟩ = some (.slice A' l c') := K2.out.cell 4
      have y2 : wr.cell? ⟨w.heap.size, 2, none⟩ = some (.int .i64 l) := K0.out.cell 2
      clear hfine hcalm hfull hP hST hfit hY HFit HFull HLay HPl HPs HRl RW K1 OO
      generalize wr = wq at *
      go_wp2_with fail
      refine HLy.out.mono ?_
      rintro e w3 ⟨gl, gm, dv, pv, g, R, rv, rfl, bl, gr⟩
      have BL := Lib.hid bl
      have GR := Lib.hid gr
      clear bl gr HLy g0 g1 g2 g3 g4 y2
      go_wp2_with fail
      refine (newReserve_ok w3 gl th 0).mono ?_
      rintro e w4 ⟨gp, rfl, lp, bp, x4⟩
      have hp4 : gp < w4.heap.size := bp.lt
      have hl4 : gl < w4.heap.size := (BL.out.ext x4).lt
      have M4 : Hid (IsMem (fun q => q = gl ∨ q = gp) w4 wq w4 gm dv pv (P 0).2) := Lib.hid (by
        rw [hP0]
        exact GR.out.mem.hold x4 (fun b hb => by
          rcases hb with e | e
          · rw [e]; exact ⟨hl4, Or.inl (Or.inr rfl)⟩
          · rw [e]; exact ⟨hp4, Or.inr lp⟩))
      have BL4 : Hid (Blk w4 gl 223 (cellsF F)) := Lib.hid (BL.out.ext x4)
      have BP4 : Hid (Blk w4 gp 193 ((P 0).1.cells gl th 0)) := Lib.hid (by rw [hP0]; exact bp)
      have hw1 : wq.heap.size ≤ gp := Nat.le_trans GR.out.mem.lt.1.size lp
      have npl : gl ≠ gp := by have := BL.out.lt; omega
      have HCk0 := memClock_ok M4.out
      rw [hP0] at HCk0
      have HCk1 := Lib.hid HCk0
      obtain ⟨ck, hck3⟩ : ∃ ck, ST.clock = ck := ⟨_, rfl⟩
      rw [hck3] at hck hck2 HCk1
      clear bp x4 BL GR lp HCk0 hP0
      go_wp2_with fail
      refine HCk1.out.mono ?_
      rintro e w' ⟨rfl, rfl⟩
      clear HCk1
      go_wp2_with fail
      go_loopw [15] (fun i wr => ∃ k : Nat, k ≤ 20 ∧ i = .int .i64 k ∧ IsMem (fun q => q = gl ∨ q = gp) wr wq wr gm dv pv (P k).2 ∧ Blk wr gl 223 (cellsF F) ∧ Blk wr gp 193 ((P k).1.cells gl th 0)) (fun i _ => 20 - (intOf i).toNat)
      case atStart => exact ⟨0, by omega, rfl, M4.out, BL4.out, BP4.out⟩
      case round =>
        obtain ⟨k, hk, rfl, mk, lk, pk⟩ := hrel
        have MK := Lib.hid mk
        have LK := Lib.hid lk
        have PK := Lib.hid pk
        clear mk lk pk M4 BL4 BP4
        by_cases hlt : k < 20
        · have v1 : decide (k < 20) = true := by simp; omega
          have v2 : decide ((k : Int) < 20) = true := by simp; omega
          have ha := HW.out k (by omega)
          have HSt := Lib.hid (rvStep_ok (slot := 0) (L := l) (i := 30 + k) MK.out (ha.2.2.calm (by omega)) (by omega) ha.2.1 HOk.out ⟨by decide, by decide⟩ ha.1 HF2.out (by omega) PK.out LK.out (Or.inr rfl) (Or.inl rfl) npl hw1)
          have e1 := HSc.out k
          rw [e1] at HSt
          have hk1 := (HFu.out (k + 1)).k (by omega)
          clear e1 ha
          go_wp2_with fail
          refine HSt.out.mono ?_
          rintro e w5 ⟨rfl, m5, b5, k5⟩
          have l5 : Blk w5 gl 223 (cellsF F) := (k5 gl (Or.inl rfl) npl).trans LK.out
          have M5 := Lib.hid m5
          have B5 := Lib.hid b5
          have L5 := Lib.hid l5
          have HLs := memLast_ok m5
          rw [hk1] at HLs
          obtain ⟨zt, hzt⟩ : ∃ z, (P (k + 1)).2.last.t = z := ⟨_, rfl⟩
          rw [hzt] at HLs
          obtain ⟨za, hza⟩ : ∃ z, (P (k + 1)).2.last.a = z := ⟨_, rfl⟩
          rw [hza] at HLs
          obtain ⟨zo, hzo⟩ : ∃ z, (P (k + 1)).2.last.o = z := ⟨_, rfl⟩
          rw [hzo] at HLs
          obtain ⟨zn, hzn⟩ : ∃ z, (P (k + 1)).2.last.n = z := ⟨_, rfl⟩
          rw [hzn] at HLs
          obtain ⟨zd, hzd⟩ : ∃ z, (P (k + 1)).2.last.d = z := ⟨_, rfl⟩
          rw [hzd] at HLs
          clear hzt hza hzo hzn hzd
          have HLt := Lib.hid HLs
          have hfa := fun W => fldA0 1 zt za zo zn zd W
          clear m5 b5 k5 l5 HSt HLs hk1 MK LK PK
          go_wp2_with fail
          refine HLt.out.mono ?_
          rintro e w6 ⟨rfl, x6⟩
          have M6 := Lib.hid (M5.out.hold x6 (fun b hb => ⟨Nat.lt_of_lt_of_le (M5.out.lt.2 b hb) x6.size, Or.inl hb⟩))
          have B6 := Lib.hid (B5.out.ext x6)
          have L6 := Lib.hid (L5.out.ext x6)
          clear x6 M5 B5 L5 HLt
          go_wp2_with fail
          go_roundw
          case rel => exact ⟨k + 1, by omega, by go_num, M6.out, L6.out, B6.out⟩
          case measure => simp [intOf]; omega
        · have v1 : decide (k < 20) = false := by simp; omega
          have v2 : decide ((k : Int) < 20) = false := by simp; omega
          obtain rfl : k = 20 := by omega
          obtain ⟨hx, -, hc, -⟩ := HFu.out 20
          rw [Nat.min_eq_right (show l ≤ 20 by omega), decide_eq_true (show l ≤ 20 by omega)] at hx
          rw [Nat.min_eq_right (show l ≤ 20 by omega), hck3] at hc
          have y2 : wr.cell? ⟨w.heap.size, 2, none⟩ = some (.int .i64 l) := (K0.out.ext MK.out.lt.1).cell 2
          have X9 := Lib.hid MK.out.lt.1
          have HAw := Lib.hid (fun W => awake11_ok W)
          have hdn : (P 20).1.dn = true := by rw [hx]
          have htl : (P 20).1.tells (F 2) = -1 := by
            rw [hx, HF2.out]
            show (if true = true ∧ (l : Int) < (l : Int) then (l : Int) else -1) = -1
            rw [if_neg (fun h => Int.lt_irrefl _ h.2)]
          have HDo : Hid (∀ W, Ext wr W → Calls Tryz.prog 54 #[.pointer (some ⟨gp, 0, none⟩)] W fun e w' => e = .returned (.bool true) ∧ Ext W w') := Lib.hid (fun W x => (doneReserve_ok W gp true (by have := (PK.out.ext x).cell 2; rw [← hdn]; exact this)).mono (by rintro e w' ⟨rfl, rfl⟩; exact ⟨rfl, Ext.refl _⟩))
          have HPa : Hid (∀ W, Ext wr W → Calls Tryz.prog 48 #[.pointer (some ⟨gp, 0, none⟩)] W fun e w' => e = .returned (.int .i64 (-1)) ∧ Ext W w') := Lib.hid (fun W x => (place_ok (F := F) W gp gl (P 20).1 th 0 (PK.out.ext x) (LK.out.ext x)).mono (by rintro e w' ⟨rfl, y⟩; exact ⟨by rw [htl], y⟩))
          have HCk : Hid (∀ W, Ext wr W → Calls Tryz.prog 58 #[.pointer (some ⟨gm, 0, none⟩)] W fun e w' => e = .returned (.int .i64 (ck + (l : Int))) ∧ Ext W w') := Lib.hid (fun W x => (memClock_ok (MK.out.ext x)).mono (by rintro e w' ⟨rfl, rfl⟩; exact ⟨by rw [hc], Ext.refl _⟩))
          have z0 := fun d os => cell_regrown y2 d os
          have wk : IntKind.i64.wrap (ck + (l : Int)) = ck + (l : Int) := i64w _ (by omega) (by omega)
          have dee : ((ck + (l : Int)) == (ck + (l : Int))) = true := by simp
          clear hx hc y2 hdn htl MK LK PK HW HFu HSc HF2 HOk
          go_wp2_with fail
          refine wp_region_quiet_below (by kernel_rfl) (by kernel_rfl) ?_
          repeat (quiet_step (first
            | (with_reducible exact Calls.regrown_of (HAw.out _))
            | (with_reducible exact Calls.regrown_of (HDo.out _ (grown_extF _ _ _)))
            | (with_reducible exact Calls.regrown_of (HPa.out _ (grown_extF _ _ _)))
            | (with_reducible exact Calls.regrown_of (HCk.out _ (grown_extF _ _ _)))))
          refine wpQuiet_nil ?_
          intro wf hwf
          have XF : Ext wr wf := by
            obtain ⟨⟨dq, osq⟩, hw2⟩ := hwf
            rw [hw2]
            exact grown_extF _ _ _
          clear hwf z0
          go_wp2_with fail
          go_ret
          exact ⟨rfl, (XK.out.trans X9.out).trans XF⟩

set_option maxRecDepth 100000 in
set_option maxHeartbeats 4000000 in
theorem retireFull_no (w : World) (t s l b th x0 x1 x2 x3 x4 x5 x6 x7 : Int) (h : ¬ GrOk t s l b ∨ th < 0 ∨ t ≤ th) :
    Calls Tryz.prog 9 #[.agg #[.int .i64 t, .int .i64 s, .int .i64 l, .int .i64 b], .int .i64 th, .agg #[.int .u64 x0, .int .u64 x1, .int .u64 x2, .int .u64 x3, .int .u64 x4, .int .u64 x5, .int .u64 x6, .int .u64 x7]] w fun e w' => e = .returned (.bool true) ∧ Ext w w' := by
  have X0 := Lib.hid (((Ext.refl w).alloc (.cells #[.int .i64 t, .int .i64 s, .int .i64 l, .int .i64 b] 23)).alloc (.cells #[.int .u64 x0, .int .u64 x1, .int .u64 x2, .int .u64 x3, .int .u64 x4, .int .u64 x5, .int .u64 x6, .int .u64 x7] 101))
  have B0 := Lib.hid ((Blk.new w 23 [.int .i64 t, .int .i64 s, .int .i64 l, .int .i64 b]).ext ((Ext.refl _).alloc (.cells #[.int .u64 x0, .int .u64 x1, .int .u64 x2, .int .u64 x3, .int .u64 x4, .int .u64 x5, .int .u64 x6, .int .u64 x7] 101)))
  obtain ⟨fe, HFe, hfe⟩ : ∃ fe, Hid (∀ W, Calls Tryz.prog 44 #[.agg #[.int .i64 t, .int .i64 s, .int .i64 l, .int .i64 b]] W fun e w' => (e = .returned (.bool fe)) ∧ Ext W w') ∧ (fe = false ∨ GrOk t s l b) := by
    by_cases hg : GrOk t s l b
    · exact ⟨true, Lib.hid (fun W => few9_yes t s l b W hg), Or.inr hg⟩
    · exact ⟨false, Lib.hid (fun W => few9_no t s l b W hg), Or.inl rfl⟩
  have h2 : fe = false ∨ th < 0 ∨ t ≤ th := by
    rcases hfe with e | e
    · exact Or.inl e
    · rcases h with h | h
      · exact absurd e h
      · exact Or.inr h
  clear h hfe
  obtain ⟨p1, hp1⟩ : ∃ p1, decide (th < 0) = p1 := ⟨_, rfl⟩
  obtain ⟨p2, hp2⟩ : ∃ p2, decide (t ≤ th) = p2 := ⟨_, rfl⟩
  have h3 : fe = false ∨ p1 = true ∨ p2 = true := by
    rcases h2 with h | h | h
    · exact Or.inl h
    · exact Or.inr (Or.inl (by rw [← hp1]; exact decide_eq_true h))
    · exact Or.inr (Or.inr (by rw [← hp2]; exact decide_eq_true h))
  clear h2
  go_enter Tryz.func9, Tryz.ntmps9
  go_upto_region 1 with fail
  generalize (w.alloc (.cells #[.int .i64 t, .int .i64 s, .int .i64 l, .int .i64 b] 23)).alloc (.cells #[.int .u64 x0, .int .u64 x1, .int .u64 x2, .int .u64 x3, .int .u64 x4, .int .u64 x5, .int .u64 x6, .int .u64 x7] 101) = W0 at *
  have y0 : W0.cell? ⟨w.heap.size, 0, none⟩ = some (.int .i64 t) := B0.out.cell 0
  have y1 : W0.cell? ⟨w.heap.size, 1, none⟩ = some (.int .i64 s) := B0.out.cell 1
  have y2 : W0.cell? ⟨w.heap.size, 2, none⟩ = some (.int .i64 l) := B0.out.cell 2
  have y3 : W0.cell? ⟨w.heap.size, 3, none⟩ = some (.int .i64 b) := B0.out.cell 3
  go_wp2_with fail
  refine (HFe.out _).mono ?_
  rintro e w1 ⟨rfl, x1⟩
  have X1 := Lib.hid (X0.out.trans x1)
  have y4 : w1.cell? ⟨w.heap.size, 0, none⟩ = some (.int .i64 t) := (B0.out.ext x1).cell 0
  clear x1 y0 y1 y2 y3 HFe B0
  cases fe <;> cases p1 <;> cases p2
  case true.false.false => exact absurd h3 (by simp)
  all_goals
    clear h3
    go_wp2_with fail
    refine (awake11_ok _).mono ?_
    rintro e w2 ⟨rfl, x2⟩
    have X2 := Lib.hid (X1.out.trans x2)
    clear x2
    go_wp2_with fail
    go_ret
    exact ⟨rfl, X2.out⟩
theorem retireFull_walk (w : World) (t s l b th x0 x1 x2 x3 x4 x5 x6 x7 : Int) (hX : Lim [x0, x1, x2, x3, x4, x5, x6, x7] 18446744073709551616) :
    Calls Tryz.prog 9 #[.agg #[.int .i64 t, .int .i64 s, .int .i64 l, .int .i64 b], .int .i64 th, .agg #[.int .u64 x0, .int .u64 x1, .int .u64 x2, .int .u64 x3, .int .u64 x4, .int .u64 x5, .int .u64 x6, .int .u64 x7]] w fun e w' => e = .returned (.bool true) ∧ Ext w w' := by
  by_cases h : GrOk t s l b ∧ 0 ≤ th ∧ th < t
  · obtain ⟨hg, h0, h1⟩ := h
    obtain ⟨⟨q0, q1⟩, ⟨q2, q3⟩, ⟨q4, q5⟩, q6, q7⟩ := id hg.1
    obtain ⟨t', rfl⟩ := Int.eq_ofNat_of_zero_le (show 0 ≤ t by omega)
    obtain ⟨s', rfl⟩ := Int.eq_ofNat_of_zero_le (show 0 ≤ s by omega)
    obtain ⟨l', rfl⟩ := Int.eq_ofNat_of_zero_le (show 0 ≤ l by omega)
    obtain ⟨b', rfl⟩ := Int.eq_ofNat_of_zero_le (show 0 ≤ b by omega)
    obtain ⟨th', rfl⟩ := Int.eq_ofNat_of_zero_le h0
    exact retireFull_yes w t' s' l' b' th' x0 x1 x2 x3 x4 x5 x6 x7 hg (by omega) (fun i => by
      by_cases hi : i < 8
      · exact hX i hi
      · rw [List.getD_eq_getElem?_getD, List.getElem?_eq_none (by show 8 ≤ i; omega)]
        exact ⟨by simp, by simp⟩)
  · exact retireFull_no w t s l b th x0 x1 x2 x3 x4 x5 x6 x7 (by
      by_cases hg : GrOk t s l b
      · right
        by_cases h0 : th < 0
        · exact Or.inl h0
        · exact Or.inr (Int.not_lt.1 (fun h1 => h ⟨hg, by omega, h1⟩))
      · exact Or.inl hg)

namespace retireFull
set_option maxRecDepth 100000 in
theorem lifted (os : Os) (started : os.Started) (H : Type) (enc : TypeId × Value → H) :
    ReturnsInHanded {} Tryz.checked os 9 .any (Rows.retireFullSpec.pre6 enc Tryz.prog Tryz.f9 Rows.retireFullRow.domain false) (Rows.retireFullSpec.post enc Tryz.prog Tryz.f9 false true false false) := by
  refine returnsInHanded_of_change (C := Tryz.checked) own started (by kernel_rfl) Tryz.func9
    (ChangeSpec.witness6 (enc := enc) (C := Tryz.checked) false ⟨#[], #[.agg #[.int .i64 0, .int .i64 0, .int .i64 0, .int .i64 0], .int .i64 0, .agg #[.int .u64 0, .int .u64 0, .int .u64 0, .int .u64 0, .int .u64 0, .int .u64 0, .int .u64 0, .int .u64 0]], []⟩ 8 (by kernel_rfl) (by kernel_rfl) (by kernel_rfl) (by kernel_rfl)) ?_
  intro W base args ds gs before hval0 hW hcnd _
  have hval : ∀ (j : Nat) t v, Tryz.f9.params[j]? = some t → args[j]? = some v → Value.okWide Tryz.prog W .any base t v := hval0
  have hW' := hW
  obtain ⟨p, q, hA0, hV, rfl, hfz, hnd⟩ := hW
  have hA : DataW.TrodAll enc Tryz.prog W 0 (fun _ => true) true Tryz.f9.params.toList args.toList ds p := hA0
  have hlt : ∀ x ∈ p ++ q, x.block < W.heap.size := fun x hx => hW'.lt x hx
  rw [Tryz.params9] at hA hval
  have hB := hA
  obtain ⟨v0, vs0, d0, ds0, p0, q0, hargs, rfl, rfl, h0, r0⟩ := trodAll_cons hB
  obtain ⟨v1, vs1, d1, ds1, p1, q1, rfl, rfl, rfl, h1, r1⟩ := trodAll_cons r0
  obtain ⟨v2, vs2, d2, ds2, p2, q2, rfl, rfl, rfl, h2, r2⟩ := trodAll_cons r1
  obtain ⟨rfl, rfl, rfl⟩ := trodAll_nil r2
  obtain rfl : args = #[v0, v1, v2] := by cases args; simp_all
  obtain ⟨rfl, rfl⟩ := trodVars_none hV
  obtain ⟨x0t, x0s, x0l, x0b, rfl, ok0⟩ := view_cfg Tryz.underlying23 (by kernel_rfl) (by kernel_rfl) Tryz.underlying3 Tryz.underlying3 Tryz.underlying3 Tryz.underlying3 (hval 0 23 v0 rfl rfl) h0
  obtain ⟨a1, rfl, rfl, rfl, w1⟩ := open_int Tryz.underlying3 (hval 1 3 v1 rfl rfl) h1
  obtain ⟨x2a, x2b, x2c, x2d, x2e, x2f, x2g, x2h, rfl, L2⟩ := view_line Tryz.underlying101 Tryz.underlying37 (by kernel_rfl) (by kernel_rfl) (hval 2 101 v2 rfl rfl) h2 (okWide_agg_array Tryz.underlying101 (hval 2 101 v2 rfl rfl))
  clear hA0 hval0
  refine (retireFull_walk W x0t x0s x0l x0b a1 x2a x2b x2c x2d x2e x2f x2g x2h L2).mono fun e W' ⟨he, hx⟩ => ?_
  subst he
  exact ⟨_, rfl, post_ext (pv := []) hW' (fun _ _ _ => (trodAll_cons_mk (shut_bool Tryz.underlying4 _) trodAll_mk0)) (fun sp hsp => trodAll_stays laid hx _ _ _ _ (readable_of (by kernel_rfl)) hA (fun x hx => hlt x (by first | (simp at hx ⊢; exact hx) | simp at hx)) (fun x hx => hsp x (by first | (simp at hx ⊢; exact hx) | simp at hx))) (fun _ _ => rfl) rfl hx (ok_one (by kernel_rfl) rfl (okWide_bool_mk Tryz.underlying4 _))⟩

theorem over : Rows.retireFullRow.holds Tryz.pinned (OpenSpec.ofChange Rows.retireFullSpec) :=
  OpenClaim.holds_of_wide 9 Tryz.f9 rfl rfl rfl rfl rfl rfl rfl ⟨rfl, rfl, rfl, rfl, rfl⟩ rfl rfl rfl rfl rfl (by kernel_rfl) Tryz.func9 (by kernel_rfl)
    (of_decide_eq_true (by kernel_rfl)) (by unfold Func.isWrapper; first | (rw [if_pos (by decide +kernel)]; kernel_rfl) | (rw [if_neg (by decide +kernel)]; exact ⟨rfl, rfl⟩))
    (fun os started H enc _ => lifted os started H enc)
end retireFull

theorem retireFull_holds : Rows.RetireFullSaid := retireFull.over
#print axioms retireFull_holds
end Go.Proofs.YtfbobdkfibhcnaaGreat
