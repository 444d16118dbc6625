/- Where nobody is in by an older epoch an Advance moves, alone, in 2 steps more than there are threads, else it does not: the law answers true for every config, epoch and announcements, and changes nothing. Conditions: none. -/
import Derived.Test.YtfbobdkfibhcnaaAlone1
import Derived.Test.YtfbobdkfibhcnaaArgs
import Derived.Deep.RegionHeld3
import Derived.Lib.QuietBelow
import Derived.Deep.DeepCutAuto
import Derived.Test.YtfbobdkfibhcnaaCfgV
namespace Go.Proofs.Ytfbobdkfibhcnaa
open Go.ChangeShapes Go.WideShapes Go.ChangeAt Go.RowKit
set_option linter.unusedVariables false

theorem wpList_pushPut {P : Program} {ops : Array Oper} {rest : List Oper} {o : Oper} {a : Act} {Q : Exit → Act → World → Prop} (hgd : o.guard = none) (s x : Operand) (t : TypeId)
    (ho : o.op = .call { callee := .builtin .append, args := #[s, x], argTypes := #[t, t] })
    (e : TypeId) (hinfo : (P.info? e).map (fun i => (i.zero, i.size, i.bytes)) = some (some (.agg #[.int .i64 0, .int .u64 0]), 2, 16)) (ht : P.underlying t = some (.slice e))
    (w0 W : World) (v : Value) (n : Nat) (us : List Value) (r0 r1 : Int) (hs : a.eval s = v) (hrow : W.ownsRow w0.heap.size e 2 v n us) (ext : Ext w0 W)
    (hx : a.eval x = .slice (some ⟨W.heap.size, 0, none⟩) 1 1) (hlen : n < 1000000)
    (h : ∀ v' w', w'.ownsRow w0.heap.size e 2 v' (n + 1) (us ++ [.int .i64 r0, .int .u64 r1]) → Ext w0 w' → (∀ g, g < W.heap.size → v.ownBlock ≠ some g → w'.heap[g]? = W.heap[g]? ∧ v'.ownBlock ≠ some g) → W.heap.size ≤ w'.heap.size → wpList P ops Q rest (a.put o.dst v') w') :
    wpList P ops Q (o :: rest) a (W.alloc (.cells #[.int .i64 r0, .int .u64 r1] e)) := by
  obtain ⟨i, hi, hz1, hz2, hz3⟩ := info_parts hinfo
  refine wpList_append_own_at _ hgd s x t ho w0.heap.size e i (.agg #[.int .i64 0, .int .u64 0]) 2 16 ht hi hz1 hz2 hz3 rfl (by decide) v n us hs (World.ownsRow.alloc hrow _) ⟨W.heap.size, 0, none⟩ 1 1 [.int .i64 r0, .int .u64 r1] hx rfl ?_ ?_ ?_ ?_ ?_ ?_
  · intro j u' hj
    have hb := Blk.new W e [.int .i64 r0, .int .u64 r1]
    rw [at0]
    show (W.alloc (.cells #[.int .i64 r0, .int .u64 r1] e)).cell? ⟨W.heap.size, j, none⟩ = _
    rw [hb.cell j]
    exact hj
  · intro u' hu'
    simp at hu'
    rcases hu' with rfl | rfl <;> rfl
  · unfold maxLen; omega
  · omega
  · have := ext.size; simp; omega
  · intro v' w' hown hg _ hat
    have hlt := World.ownsRow.lt hrow
    have hsz := hg.size
    simp at hsz
    refine h v' w' hown (Ext.of ((Below.alloc ext.below ext.size _).grown hg (by have := ext.size; simp; omega) (fun q hq => (hlt q hq).1))) (fun g hgl hne => ⟨(hg.block g (by simp; omega) (fun e => hne e.symm)).trans (Below.heap_alloc _ _ _ hgl), ?_⟩) (by omega)
    rcases hat with e | e
    · rw [e]; exact hne
    · rw [e]
      simp
      omega
open Go.Sort in
theorem grown_extE (w : World) (d : Nat) (os : Array Obj) : Ext w (grow (redrawn w d) os) := Ext.of (below_regrown w d os)
/-- What a thread announces, and whether it holds an Advance up. -/
def insB (now z : Int) : Bool := decide (z % 3 = 2) && decide (0 < now)
def insV (now z : Int) : Int := if z % 3 = 1 then now + 1 else if insB now z = true then now else 0
theorem insV_rng {now z : Int} (h : 0 ≤ now ∧ now < 256) : 0 ≤ insV now z ∧ insV now z < 257 := by
  unfold insV
  split
  · omega
  · split <;> omega
theorem holds_ins {now z : Int} (h : 0 ≤ now ∧ now < 256) : holds now (insV now z) = insB now z := by
  have e : next64 now = now + 1 := by unfold next64; omega
  unfold holds insV insB
  rw [e]
  by_cases h1 : z % 3 = 1
  · rw [if_pos h1]
    have h2 : decide (z % 3 = 2) = false := by simp; omega
    rw [h2]
    simp
  · rw [if_neg h1]
    by_cases h2 : z % 3 = 2
    · by_cases h3 : 0 < now
      · have e1 : (decide (z % 3 = 2) && decide (0 < now)) = true := by simp [h2, h3]
        rw [if_pos e1, e1]
        have a1 : (now != 0) = true := by rw [bne_iff_ne]; omega
        have a2 : (now != now + 1) = true := by rw [bne_iff_ne]; omega
        rw [a1, a2]
        rfl
      · have e1 : (decide (z % 3 = 2) && decide (0 < now)) = false := by simp [h3]
        rw [e1, if_neg (by simp)]
        rfl
    · have e1 : (decide (z % 3 = 2) && decide (0 < now)) = false := by simp [h2]
      rw [e1, if_neg (by simp)]
      rfl
def putF (now : Int) (zs : List Int) (i : Nat) : Put := if i = 0 then (-1, now) else (-3 - ((i - 1 : Nat) : Int), insV now (zs.getD (i - 1) 0))
def putsF (now : Int) (zs : List Int) (k : Nat) : List Put := (List.range k).map (putF now zs)
theorem putsF_len (now : Int) (zs : List Int) (k : Nat) : (putsF now zs k).length = k := by simp [putsF]
theorem putsF_succ (now : Int) (zs : List Int) (k : Nat) : putsF now zs (k + 1) = putsF now zs k ++ [putF now zs k] := by simp [putsF, List.range_succ]
theorem putF_next (now : Int) (zs : List Int) (k : Nat) : putF now zs (k + 1) = (-3 - (k : Int), insV now (zs.getD k 0)) := by
  unfold putF
  rw [if_neg (by omega)]
  rfl
def mayF (now : Int) (zs : List Int) (k : Nat) : Bool := (List.range k).all fun i => !insB now (zs.getD i 0)
theorem mayF_succ (now : Int) (zs : List Int) (k : Nat) : mayF now zs (k + 1) = (mayF now zs k && !insB now (zs.getD k 0)) := by
  unfold mayF
  rw [List.range_succ, List.all_append]
  simp
theorem mayF_yes {now : Int} {zs : List Int} {k : Nat} (h : mayF now zs k = true) (i : Nat) (hi : i < k) : insB now (zs.getD i 0) = false := by
  unfold mayF at h
  have := List.all_eq_true.1 h i (List.mem_range.2 hi)
  simpa using this
theorem mayF_no {now : Int} {zs : List Int} : ∀ {k : Nat}, mayF now zs k = false → ∃ j, j < k ∧ insB now (zs.getD j 0) = true ∧ ∀ i, i < j → insB now (zs.getD i 0) = false
  | 0, h => by simp [mayF] at h
  | k + 1, h => by
    rw [mayF_succ] at h
    by_cases hm : mayF now zs k = true
    · rw [hm, Bool.true_and] at h
      exact ⟨k, by omega, by simpa using h, fun i hi => mayF_yes hm i hi⟩
    · obtain ⟨j, h1, h2, h3⟩ := mayF_no (k := k) (by simpa using hm)
      exact ⟨j, by omega, h2, h3⟩
theorem ground_ins {t s l b : Nat} (now : Int) (zs : List Int) :
    peekV (groundSt t s l b (putsF now zs (t + 1))) (-1) = now ∧ ∀ i : Nat, i < t → peekV (groundSt t s l b (putsF now zs (t + 1))) (ann (layF t s l b) i) = insV now (zs.getD i 0) := by
  have key := putAll_peek (MOk.start t s l b) (putF now zs) (fun _ => Or.inr trivial) (t + 1) (fun i hi => by
    unfold putF
    split
    · show -1 - ((2 + t + s : Nat) : Int) < -1 ∧ (-1 : Int) < _
      omega
    · show -1 - ((2 + t + s : Nat) : Int) < -3 - ((i - 1 : Nat) : Int) ∧ -3 - ((i - 1 : Nat) : Int) < _
      omega) (fun i j hij hj => by
    unfold putF
    rw [if_neg (show ¬ j = 0 by omega)]
    split
    · show (-1 : Int) ≠ -3 - ((j - 1 : Nat) : Int)
      omega
    · show -3 - ((i - 1 : Nat) : Int) ≠ -3 - ((j - 1 : Nat) : Int)
      omega)
  refine ⟨?_, fun i hi => ?_⟩
  · exact key.1 0 (by omega)
  · have h2 := key.1 (i + 1) (by omega)
    rw [putF_next] at h2
    rw [ann_at (by omega) (by omega)]
    exact h2
theorem putsF_fit {now : Int} (h : 0 ≤ now ∧ now < 256) (zs : List Int) (k : Nat) (hk : k ≤ 1000) : ∀ i, i < (putsF now zs k).length → PutFit ((putsF now zs k).getD i (0, 0)) := fun i hi => by
  rw [putsF_len] at hi
  have e : (putsF now zs k).getD i (0, 0) = putF now zs i := by
    unfold putsF
    rw [List.getD_eq_getElem?_getD, List.getElem?_map, List.getElem?_range hi]
    rfl
  rw [e]
  unfold putF
  split
  · exact ⟨⟨by show (-9223372036854775808 : Int) ≤ -1; decide, by show (-1 : Int) < 9223372036854775808; decide⟩, h.1, by show now < _; omega⟩
  · have := insV_rng (z := zs.getD (i - 1) 0) h
    exact ⟨⟨by show (-9223372036854775808 : Int) ≤ -3 - ((i - 1 : Nat) : Int); omega, by show -3 - ((i - 1 : Nat) : Int) < 9223372036854775808; omega⟩, this.1, by show insV now (zs.getD (i - 1) 0) < _; omega⟩
theorem PutRow.lit {w w' : World} {B g : Nat} (hB : B ≤ g) (now : Int) (zs : List Int) (h : Blk w g 59 [.int .i64 (-1), .int .u64 now]) : PutRow w B (.slice (some ⟨g, 0, none⟩) 1 1) (putsF now zs 1) :=
  ⟨rfl, Or.inr ⟨g, 1, _, rfl, hB, h, Nat.le_refl _, by unfold maxLen; omega, rfl, rfl⟩⟩

set_option maxRecDepth 100000 in
set_option maxHeartbeats 8000000 in
theorem epochAlone_yes (w : World) (A : Option Addr) (c : Nat) (t s l b : Nat) (now : Int) (hf : 0 ≤ now ∧ now < 256) (zs : List Int) (hl : zs.length = t) (hA : Ints w .u8 A zs) (hz : Lim zs 256) (hg : GrOk t s l b) :
    Calls Try.prog 6 #[.agg #[.int .i64 t, .int .i64 s, .int .i64 l, .int .i64 b], .int .u8 now, .slice A t c] w fun e w' => e = .returned (.bool true) ∧ Ext w w' := by
  have X0 := Lib.hid ((Ext.refl w).alloc (.cells #[.int .i64 t, .int .i64 s, .int .i64 l, .int .i64 b] 23))
  have B0 := Lib.hid (Blk.new w 23 [.int .i64 t, .int .i64 s, .int .i64 l, .int .i64 b])
  have HY := Lib.hid (fun W => few9_yes t s l b W hg)
  have HI := Lib.hid hA
  have HZ := Lib.hid hz
  have HL := Lib.hid hl
  have HG := Lib.hid hg
  obtain ⟨hc, h1, h2, h3, h4⟩ := id hg
  obtain ⟨⟨q0, q1⟩, ⟨q2, q3⟩, ⟨q4, q5⟩, q6, q7⟩ := id hc
  have HOk := Lib.hid (okayF hc)
  have HF0 : Hid (layF t s l b 0 = (t : Int)) := Lib.hid rfl
  have HF21 : Hid (layF t s l b 21 = -1) := Lib.hid rfl
  have t1 : 1 ≤ t := by omega
  have t6 : t ≤ 6 := by omega
  have FI := Lib.hid hf
  have wfi : IntKind.u64.wrap now = now := u64w now hf.1 (by omega)
  have dtt : ((t : Int) != (t : Int)) = false := by simp
  clear hA hz hl hg hc h1 h2 h3 h4 q0 q1 q2 q3 q4 q5 q6 q7 hf
  go_enter Try.func6, Try.ntmps6
  go_upto_region 1 with fail
  generalize w.alloc (.cells #[.int .i64 t, .int .i64 s, .int .i64 l, .int .i64 b] 23) = W0 at *
  have y0 : W0.cell? ⟨w.heap.size, 0, none⟩ = some (.int .i64 t) := B0.out.cell 0
  have y1 : W0.cell? ⟨w.heap.size, 1, none⟩ = some (.int .i64 s) := B0.out.cell 1
  have y2 : W0.cell? ⟨w.heap.size, 2, none⟩ = some (.int .i64 l) := B0.out.cell 2
  have y3 : W0.cell? ⟨w.heap.size, 3, none⟩ = some (.int .i64 b) := B0.out.cell 3
  go_wp2_with fail
  refine (HY.out _).mono ?_
  rintro e w1 ⟨rfl, x1⟩
  have X1 := Lib.hid (X0.out.trans x1)
  have B1 := Lib.hid (B0.out.ext x1)
  clear x1 y0 y1 y2 y3 X0 B0 HY
  have y0 : w1.cell? ⟨w.heap.size, 0, none⟩ = some (.int .i64 t) := B1.out.cell 0
  have y1 : w1.cell? ⟨w.heap.size, 1, none⟩ = some (.int .i64 s) := B1.out.cell 1
  have y2 : w1.cell? ⟨w.heap.size, 2, none⟩ = some (.int .i64 l) := B1.out.cell 2
  have y3 : w1.cell? ⟨w.heap.size, 3, none⟩ = some (.int .i64 b) := B1.out.cell 3
  go_upto_region 4 with fail
  have hw1 : w.heap.size < w1.heap.size := B1.out.lt
  have x5 := ((Ext.refl w1).alloc (.cells #[.int .i64 (-1), .int .u64 now] 59)).alloc (.cells #[.int .i64 t, .int .i64 s, .int .i64 l, .int .i64 b, .slice (some ⟨w1.heap.size, 0, none⟩) 1 1] 33)
  have bq := (Blk.new w1 59 [.int .i64 (-1), .int .u64 now]).ext ((Ext.refl _).alloc (.cells #[.int .i64 t, .int .i64 s, .int .i64 l, .int .i64 b, .slice (some ⟨w1.heap.size, 0, none⟩) 1 1] 33))
  have bg := Blk.new (w1.alloc (.cells #[.int .i64 (-1), .int .u64 now] 59)) 33 [.int .i64 t, .int .i64 s, .int .i64 l, .int .i64 b, .slice (some ⟨w1.heap.size, 0, none⟩) 1 1]
  simp only [World.size_alloc] at bg
  have R5 := Lib.hid (PutRow.lit (B := w.heap.size) (w' := w) (Nat.le_of_lt hw1) now zs bq)
  have X5 := Lib.hid (X1.out.trans x5)
  have B5 := Lib.hid (B1.out.ext x5)
  have G5 := Lib.hid bg
  clear x5 bq bg y0 y1 y2 y3 X1 B1
  generalize (w1.alloc (.cells #[.int .i64 (-1), .int .u64 now] 59)).alloc (.cells #[.int .i64 t, .int .i64 s, .int .i64 l, .int .i64 b, .slice (some ⟨w1.heap.size, 0, none⟩) 1 1] 33) = W5 at *
  generalize w1.heap.size = gq at *
  go_wp2_with fail
  go_loopw [8, 9] (fun mv i wr => ∃ (k : Nat) (v : Value), k ≤ t ∧ i = .int .i64 k ∧ mv = .bool (mayF now zs k) ∧ PutRow wr w.heap.size v (putsF now zs (k + 1)) ∧ Ext w wr ∧ Blk wr (gq + 1) 33 [.int .i64 t, .int .i64 s, .int .i64 l, .int .i64 b, v] ∧ v.ownBlock ≠ some (gq + 1) ∧ Blk wr w.heap.size 23 [.int .i64 t, .int .i64 s, .int .i64 l, .int .i64 b] ∧ v.ownBlock ≠ some w.heap.size) (fun _ i _ => t - (intOf i).toNat)
  case atStart => exact ⟨0, _, Nat.zero_le _, rfl, rfl, R5.out, X5.out, G5.out, by simp [Value.ownBlock], B5.out, by simp [Value.ownBlock]; omega⟩
  case round =>
    obtain ⟨k, v, hk, rfl, rfl, row, xk, gk, og, bk, ob⟩ := hrel
    have RW := Lib.hid row
    have XK := Lib.hid xk
    have GK := Lib.hid gk
    have BK := Lib.hid bk
    have OG := Lib.hid og
    have OB := Lib.hid ob
    clear row xk gk og bk ob R5 X5 G5 B5
    by_cases hlt : k < t
    · have v1 : decide (k < t) = true := by simp; omega
      obtain ⟨ad, hAd, _, hcc⟩ := (HI.out.ext XK.out) (by have := HL.out; omega)
      have p0 := hcc k (by have := HL.out; omega)
      have zr := HZ.out k (by have := HL.out; omega)
      have HPn := Lib.hid (putF_next now zs k)
      have HSu := Lib.hid (putsF_succ now zs (k + 1))
      have HMs := Lib.hid (mayF_succ now zs k)
      obtain ⟨z, hz⟩ : ∃ z, zs.getD k 0 = z := ⟨_, rfl⟩
      rw [hz] at p0 zr HPn HMs
      obtain ⟨zn, rfl⟩ := Int.eq_ofNat_of_zero_le zr.1
      subst hAd
      clear hcc hz
      have y4 : wr.cell? ⟨gq + 1, 4, none⟩ = some v := GK.out.cell 4
      have hg1 : gq + 1 < wr.heap.size := GK.out.lt
      obtain ⟨f0, f1⟩ := FI.out
      have w3 : IntKind.i64.wrap (-3 - (k : Int)) = -3 - (k : Int) := i64w _ (by omega) (by omega)
      have wn1 : IntKind.u64.wrap (now + 1) = now + 1 := u64w _ (by omega) (by omega)
      have e3 : ((zn : Int)).tmod 3 = ((zn % 3 : Nat) : Int) := by
        rw [Int.tmod_eq_emod_of_nonneg (by omega)]
        rfl
      have e3' : ((zn : Int)) % 3 = ((zn % 3 : Nat) : Int) := by omega
      have hr3 : zn % 3 < 3 := Nat.mod_lt _ (by decide)
      have HIv := Lib.hid (show insV now (zn : Int) = insV now (zn : Int) from rfl)
      have HIb : Hid (insB now (zn : Int) = (decide (((zn % 3 : Nat) : Int) = 2) && decide (0 < now))) := Lib.hid (by unfold insB; rw [e3'])
      have HIv2 : Hid (insV now (zn : Int) = if ((zn % 3 : Nat) : Int) = 1 then now + 1 else if insB now (zn : Int) = true then now else 0) := Lib.hid (by unfold insV; rw [e3'])
      clear HIv e3'
      generalize zn % 3 = r3 at *
      have hcase : r3 = 0 ∨ r3 = 1 ∨ (r3 = 2 ∧ 0 < now) ∨ (r3 = 2 ∧ now = 0) := by omega
      clear hr3
      rcases hcase with rfl | rfl | ⟨rfl, hpos⟩ | ⟨rfl, rfl⟩
      · have HIB : Hid (insB now (zn : Int) = false) := Lib.hid (by rw [HIb.out]; rfl)
        have HIV : Hid (insV now (zn : Int) = 0) := Lib.hid (by rw [HIv2.out, HIB.out]; rfl)
        replace e3 : ((zn : Int)).tmod 3 = 0 := e3
        clear HIb HIv2
        go_wp2_with ((at_builtin; refine Hid.out ?_))
        refine Lib.hid ?_
        refine wpList_pushPut rfl _ _ 31 rfl 59 put_info Try.underlying31 w wr v (k + 1) (flatQ (putsF now zs (k + 1))) (-3 - (k : Int)) (0) (by rfl) (by have := RW.out; unfold PutRow at this; rw [putsF_len] at this; exact this) XK.out (by rfl) (by omega) ?_
        intro v' w5 h1 h2 h3 h4
        obtain ⟨g', cap', rfl⟩ := ownsRow_succ h1
        have RN : Hid (PutRow w5 w.heap.size (.slice (some ⟨g', 0, none⟩) (k + 1 + 1) cap') (putsF now zs (k + 1 + 1))) := Lib.hid (by
          unfold PutRow
          rw [putsF_len, HSu.out, HPn.out, HIV.out, flatQ_append]
          exact h1)
        have XN := Lib.hid h2
        obtain ⟨a1, a2⟩ := h3 (gq + 1) hg1 OG.out
        obtain ⟨a3, a4⟩ := h3 w.heap.size (by have := BK.out.lt; omega) OB.out
        have GN := Lib.hid (show Blk w5 (gq + 1) 33 [.int .i64 t, .int .i64 s, .int .i64 l, .int .i64 b, v] from a1.trans GK.out)
        have BN := Lib.hid (show Blk w5 w.heap.size 23 [.int .i64 t, .int .i64 s, .int .i64 l, .int .i64 b] from a3.trans BK.out)
        have O1 := Lib.hid a2
        have O2 := Lib.hid a4
        have y5 : w5.cell? ⟨gq + 1, 4, none⟩ = some v := GN.out.cell 4
        have z5 : w5.frozen? ⟨gq + 1, 4, none⟩ = false := GN.out.frozen 4
        clear h1 h2 h3 h4 a1 a2 a3 a4 y4
        go_wp2_with fail
        go_roundw
        case rel => exact ⟨k + 1, _, by omega, by go_num, by first | (rw [HMs.out, HIB.out]; simp) | (rw [HMs.out, HIB.out, Bool.not_true, Bool.and_false]), RN.out.far (p := ⟨gq + 1, 4, none⟩) O1.out _, XN.out.setCell (p := ⟨gq + 1, 4, none⟩) (by show w.heap.size ≤ gq + 1; omega) _, GN.out.set 4 _, O1.out, BN.out.far (by show w.heap.size ≠ gq + 1; omega) _, O2.out⟩
        case measure => simp [intOf]; omega
      · have HIB : Hid (insB now (zn : Int) = false) := Lib.hid (by rw [HIb.out]; rfl)
        have HIV : Hid (insV now (zn : Int) = now + 1) := Lib.hid (by rw [HIv2.out]; rfl)
        replace e3 : ((zn : Int)).tmod 3 = 1 := e3
        clear HIb HIv2
        go_wp2_with ((at_builtin; refine Hid.out ?_))
        refine Lib.hid ?_
        refine wpList_pushPut rfl _ _ 31 rfl 59 put_info Try.underlying31 w wr v (k + 1) (flatQ (putsF now zs (k + 1))) (-3 - (k : Int)) (now + 1) (by rfl) (by have := RW.out; unfold PutRow at this; rw [putsF_len] at this; exact this) XK.out (by rfl) (by omega) ?_
        intro v' w5 h1 h2 h3 h4
        obtain ⟨g', cap', rfl⟩ := ownsRow_succ h1
        have RN : Hid (PutRow w5 w.heap.size (.slice (some ⟨g', 0, none⟩) (k + 1 + 1) cap') (putsF now zs (k + 1 + 1))) := Lib.hid (by
          unfold PutRow
          rw [putsF_len, HSu.out, HPn.out, HIV.out, flatQ_append]
          exact h1)
        have XN := Lib.hid h2
        obtain ⟨a1, a2⟩ := h3 (gq + 1) hg1 OG.out
        obtain ⟨a3, a4⟩ := h3 w.heap.size (by have := BK.out.lt; omega) OB.out
        have GN := Lib.hid (show Blk w5 (gq + 1) 33 [.int .i64 t, .int .i64 s, .int .i64 l, .int .i64 b, v] from a1.trans GK.out)
        have BN := Lib.hid (show Blk w5 w.heap.size 23 [.int .i64 t, .int .i64 s, .int .i64 l, .int .i64 b] from a3.trans BK.out)
        have O1 := Lib.hid a2
        have O2 := Lib.hid a4
        have y5 : w5.cell? ⟨gq + 1, 4, none⟩ = some v := GN.out.cell 4
        have z5 : w5.frozen? ⟨gq + 1, 4, none⟩ = false := GN.out.frozen 4
        clear h1 h2 h3 h4 a1 a2 a3 a4 y4
        go_wp2_with fail
        go_roundw
        case rel => exact ⟨k + 1, _, by omega, by go_num, by first | (rw [HMs.out, HIB.out]; simp) | (rw [HMs.out, HIB.out, Bool.not_true, Bool.and_false]), RN.out.far (p := ⟨gq + 1, 4, none⟩) O1.out _, XN.out.setCell (p := ⟨gq + 1, 4, none⟩) (by show w.heap.size ≤ gq + 1; omega) _, GN.out.set 4 _, O1.out, BN.out.far (by show w.heap.size ≠ gq + 1; omega) _, O2.out⟩
        case measure => simp [intOf]; omega
      · have HIB : Hid (insB now (zn : Int) = true) := Lib.hid (by rw [HIb.out]; simp [hpos])
        have HIV : Hid (insV now (zn : Int) = now) := Lib.hid (by rw [HIv2.out, HIB.out]; rfl)
        replace e3 : ((zn : Int)).tmod 3 = 2 := e3
        have dpos : decide (0 < now) = true := by simp; omega
        clear HIb HIv2
        go_wp2_with ((at_builtin; refine Hid.out ?_))
        refine Lib.hid ?_
        refine wpList_pushPut rfl _ _ 31 rfl 59 put_info Try.underlying31 w wr v (k + 1) (flatQ (putsF now zs (k + 1))) (-3 - (k : Int)) (now) (by rfl) (by have := RW.out; unfold PutRow at this; rw [putsF_len] at this; exact this) XK.out (by rfl) (by omega) ?_
        intro v' w5 h1 h2 h3 h4
        obtain ⟨g', cap', rfl⟩ := ownsRow_succ h1
        have RN : Hid (PutRow w5 w.heap.size (.slice (some ⟨g', 0, none⟩) (k + 1 + 1) cap') (putsF now zs (k + 1 + 1))) := Lib.hid (by
          unfold PutRow
          rw [putsF_len, HSu.out, HPn.out, HIV.out, flatQ_append]
          exact h1)
        have XN := Lib.hid h2
        obtain ⟨a1, a2⟩ := h3 (gq + 1) hg1 OG.out
        obtain ⟨a3, a4⟩ := h3 w.heap.size (by have := BK.out.lt; omega) OB.out
        have GN := Lib.hid (show Blk w5 (gq + 1) 33 [.int .i64 t, .int .i64 s, .int .i64 l, .int .i64 b, v] from a1.trans GK.out)
        have BN := Lib.hid (show Blk w5 w.heap.size 23 [.int .i64 t, .int .i64 s, .int .i64 l, .int .i64 b] from a3.trans BK.out)
        have O1 := Lib.hid a2
        have O2 := Lib.hid a4
        have y5 : w5.cell? ⟨gq + 1, 4, none⟩ = some v := GN.out.cell 4
        have z5 : w5.frozen? ⟨gq + 1, 4, none⟩ = false := GN.out.frozen 4
        clear h1 h2 h3 h4 a1 a2 a3 a4 y4
        go_wp2_with fail
        go_roundw
        case rel => exact ⟨k + 1, _, by omega, by go_num, by first | (rw [HMs.out, HIB.out]; simp) | (rw [HMs.out, HIB.out, Bool.not_true, Bool.and_false]), RN.out.far (p := ⟨gq + 1, 4, none⟩) O1.out _, XN.out.setCell (p := ⟨gq + 1, 4, none⟩) (by show w.heap.size ≤ gq + 1; omega) _, GN.out.set 4 _, O1.out, BN.out.far (by show w.heap.size ≠ gq + 1; omega) _, O2.out⟩
        case measure => simp [intOf]; omega
      · have HIB : Hid (insB 0 (zn : Int) = false) := Lib.hid (by rw [HIb.out]; rfl)
        have HIV : Hid (insV 0 (zn : Int) = 0) := Lib.hid (by rw [HIv2.out, HIB.out]; rfl)
        replace e3 : ((zn : Int)).tmod 3 = 2 := e3
        clear HIb HIv2
        go_wp2_with ((at_builtin; refine Hid.out ?_))
        refine Lib.hid ?_
        refine wpList_pushPut rfl _ _ 31 rfl 59 put_info Try.underlying31 w wr v (k + 1) (flatQ (putsF 0 zs (k + 1))) (-3 - (k : Int)) (0) (by rfl) (by have := RW.out; unfold PutRow at this; rw [putsF_len] at this; exact this) XK.out (by rfl) (by omega) ?_
        intro v' w5 h1 h2 h3 h4
        obtain ⟨g', cap', rfl⟩ := ownsRow_succ h1
        have RN : Hid (PutRow w5 w.heap.size (.slice (some ⟨g', 0, none⟩) (k + 1 + 1) cap') (putsF 0 zs (k + 1 + 1))) := Lib.hid (by
          unfold PutRow
          rw [putsF_len, HSu.out, HPn.out, HIV.out, flatQ_append]
          exact h1)
        have XN := Lib.hid h2
        obtain ⟨a1, a2⟩ := h3 (gq + 1) hg1 OG.out
        obtain ⟨a3, a4⟩ := h3 w.heap.size (by have := BK.out.lt; omega) OB.out
        have GN := Lib.hid (show Blk w5 (gq + 1) 33 [.int .i64 t, .int .i64 s, .int .i64 l, .int .i64 b, v] from a1.trans GK.out)
        have BN := Lib.hid (show Blk w5 w.heap.size 23 [.int .i64 t, .int .i64 s, .int .i64 l, .int .i64 b] from a3.trans BK.out)
        have O1 := Lib.hid a2
        have O2 := Lib.hid a4
        have y5 : w5.cell? ⟨gq + 1, 4, none⟩ = some v := GN.out.cell 4
        have z5 : w5.frozen? ⟨gq + 1, 4, none⟩ = false := GN.out.frozen 4
        clear h1 h2 h3 h4 a1 a2 a3 a4 y4
        go_wp2_with fail
        go_roundw
        case rel => exact ⟨k + 1, _, by omega, by go_num, by first | (rw [HMs.out, HIB.out]; simp) | (rw [HMs.out, HIB.out, Bool.not_true, Bool.and_false]), RN.out.far (p := ⟨gq + 1, 4, none⟩) O1.out _, XN.out.setCell (p := ⟨gq + 1, 4, none⟩) (by show w.heap.size ≤ gq + 1; omega) _, GN.out.set 4 _, O1.out, BN.out.far (by show w.heap.size ≠ gq + 1; omega) _, O2.out⟩
        case measure => simp [intOf]; omega
    · have v1 : decide (k < t) = false := by simp; omega
      obtain ⟨Ag, cg, hvf, _, hcm, hpa⟩ := RW.out.form (putsF_fit FI.out zs (k + 1) (by omega))
      rw [putsF_len] at hvf
      subst hvf
      obtain rfl : k = t := by omega
      have HLa := Lib.hid (lay_ok wr Ag (k + 1) cg k s l b (putsF now zs (k + 1)) HG.out (putsF_len _ _ _) (by omega) hpa)
      have g0 : wr.cell? ⟨gq + 1, 0, none⟩ = some (.int .i64 k) := GK.out.cell 0
      have g1 : wr.cell? ⟨gq + 1, 1, none⟩ = some (.int .i64 s) := GK.out.cell 1
      have g2 : wr.cell? ⟨gq + 1, 2, none⟩ = some (.int .i64 l) := GK.out.cell 2
      have g3 : wr.cell? ⟨gq + 1, 3, none⟩ = some (.int .i64 b) := GK.out.cell 3
      have g4 : wr.cell? ⟨gq + 1, 4, none⟩ = some (.slice Ag (k + 1) cg) := GK.out.cell 4
      have HGi := Lib.hid (ground_ins (t := k) (s := s) (l := l) (b := b) now zs)
      have hcal := putAll_calm (s := startSt k s l b) rfl rfl (putsF now zs (k + 1)) (k + 1) (by rw [putsF_len]; exact Nat.le_refl _)
      rw [List.take_of_length_le (by rw [putsF_len]; exact Nat.le_refl _)] at hcal
      have HCa : Hid (CalmN 7 (groundSt k s l b (putsF now zs (k + 1)))) := Lib.hid (CalmN.mono hcal (by omega))
      have HOm : Hid (MOk (2 + k + s) (wN k s l b) (groundSt k s l b (putsF now zs (k + 1)))) := Lib.hid ((MOk.start k s l b).putAll _)
      clear hcm hpa hcal HI HZ HL HG OG OB RW hlt hk GK
      obtain ⟨s0, hs0⟩ : ∃ s0, groundSt k s l b (putsF now zs (k + 1)) = s0 := ⟨_, rfl⟩
      rw [hs0] at HGi HCa HOm
      have HS0 := Lib.hid hs0
      obtain ⟨cl, hcl⟩ : ∃ cl, s0.clock = cl := ⟨_, rfl⟩
      have HCl := Lib.hid hcl
      clear hs0 hcl
      obtain ⟨mf, hmf⟩ : ∃ mf, mayF now zs k = mf := ⟨_, rfl⟩
      rw [hmf]
      have HMf := Lib.hid hmf
      clear hmf
      go_wp2_with fail
      refine HLa.out.mono ?_
      rintro e w6 ⟨gl, gm, dv, pv, g, R, rv, rfl, bl, gr⟩
      rw [HS0.out] at gr
      have BL := Lib.hid bl
      have GR := Lib.hid gr
      clear bl gr g0 g1 g2 g3 g4 HLa
      go_wp2_with fail
      refine (newAdvance_ok w6 gl 0).mono ?_
      rintro e w7 ⟨ga, rfl, la, ba, x7⟩
      have HNe : Hid (gl ≠ ga ∧ wr.heap.size ≤ ga) := Lib.hid (by
        have h1 := BL.out.lt
        have h2 := GR.out.mem.lt.1.size
        exact ⟨by omega, by omega⟩)
      have M7 : Hid (IsMem (fun q => q = gl ∨ q = ga) w7 wr w7 gm dv pv s0) := Lib.hid (GR.out.mem.hold (Q' := fun q => q = gl ∨ q = ga) x7 (fun q hq => by
        rcases hq with e | e
        · rw [e]; exact ⟨(BL.out.ext x7).lt, Or.inl (Or.inr rfl)⟩
        · rw [e]; exact ⟨ba.lt, Or.inr la⟩))
      have BA := Lib.hid ba
      have BL7 := Lib.hid (BL.out.ext x7)
      have hc7 := memClock_ok M7.out
      rw [HCl.out] at hc7
      have HC7 := Lib.hid hc7
      clear hc7
      clear ba x7 la BL GR
      go_wp2_with fail
      refine HC7.out.mono ?_
      rintro e w' ⟨rfl, rfl⟩
      clear HC7
      go_wp2_with fail
      generalize wr = wz at *
      go_loopw [17] (fun i w9 => ∃ j : Nat, j ≤ 20 ∧ i = .int .i64 j ∧ IsMem (fun q => q = gl ∨ q = ga) w9 wz w9 gm dv pv (advRun (layF k s l b) k 0 s0 j).2 ∧ Blk w9 gl 138 (cellsF (layF k s l b)) ∧ Blk w9 ga 126 ((advRun (layF k s l b) k 0 s0 j).1.cells gl 0) ∧ (advRun (layF k s l b) k 0 s0 j).1.Wf k ∧ CalmN (7 + (j : Int)) (advRun (layF k s l b) k 0 s0 j).2) (fun i _ => 20 - (intOf i).toNat)
      case atStart => exact ⟨0, Nat.zero_le _, rfl, M7.out, BL7.out, BA.out, ⟨⟨Int.le_refl 0, by show (0 : Int) < _; decide⟩, Nat.zero_le _⟩, HCa.out⟩
      case round =>
        obtain ⟨j, hj, rfl, mj, lj, aj, wfj, cj⟩ := hrel
        have MJ := Lib.hid mj
        have LJ := Lib.hid lj
        have AJ := Lib.hid aj
        have WJ := Lib.hid wfj
        have CJ := Lib.hid cj
        clear mj lj aj wfj cj M7 BL7 BA
        by_cases hlt : j < 20
        · have v2 : decide (j < 20) = true := by simp; omega
          have v3 : decide ((j : Int) < 20) = true := by simp; omega
          have HSt := advStep_ok MJ.out (CJ.out.calm (by omega)) HOk.out WJ.out (by omega) HF21.out HF0.out AJ.out LJ.out (Or.inr rfl) (Or.inl rfl) HNe.out.1 HNe.out.2
          have hwf := advS_wf (F := layF k s l b) (t := 0) (MJ.out.peekU (-1)) WJ.out CJ.out
          rw [← advRun_succ] at HSt hwf
          have HWf := Lib.hid hwf
          have HS := Lib.hid HSt
          clear HSt hwf
          go_wp2_with fail
          refine HS.out.mono ?_
          rintro e w10 ⟨rfl, m10, b10, k10⟩
          have M10 := Lib.hid m10
          have B10 := Lib.hid b10
          have L10 := Lib.hid ((k10 gl (Or.inl rfl) HNe.out.1).trans LJ.out)
          clear m10 b10 k10 HS LJ
          go_wp2_with fail
          go_roundw
          case rel => exact ⟨j + 1, by omega, by go_num, M10.out, L10.out, B10.out, HWf.out.1, by rw [show (7 : Int) + ((j + 1 : Nat) : Int) = 7 + (j : Int) + 1 by omega]; exact HWf.out.2⟩
          case measure => simp [intOf]; omega
        · have v2 : decide (j < 20) = false := by simp; omega
          have v3 : decide ((j : Int) < 20) = false := by simp; omega
          have hpe := MJ.out.peek (-1) (by decide) (by decide)
          have y0 : wr.cell? ⟨w.heap.size, 0, none⟩ = some (.int .i64 k) := (BK.out.ext MJ.out.lt.1).cell 0
          have X9 := Lib.hid MJ.out.lt.1
          have HAw := Lib.hid (fun W => awake10_ok W)
          obtain ⟨f0, f1⟩ := FI.out
          have c0 := HCa.out.1
          have c7 := HCa.out.2.1
          have hE : peekV s0 (-1) = now := HGi.out.1
          rw [HCl.out] at c0 c7
          cases mf
          · obtain ⟨j0, hj0, hb1, hb2⟩ := mayF_no HMf.out
            have hrun := advRun_held (F := layF k s l b) (T := k) (t := 0) hE j0 hj0 (fun i hi => by rw [HGi.out.2 i (by omega), holds_ins FI.out]; exact hb2 i hi) (by rw [HGi.out.2 j0 hj0, holds_ins FI.out]; exact hb1) j (by omega)
            obtain ⟨r1, r2, r3⟩ := hrun
            rw [r2] at hpe
            rw [HCl.out] at r3
            have HDo : Hid (∀ W, Ext wr W → Calls Try.prog 30 #[.pointer (some ⟨ga, 0, none⟩)] W fun e w' => e = .returned (.bool true) ∧ Ext W w') := Lib.hid (fun W x => (doneAdvance_ok W ga true (by have := (AJ.out.ext x).cell 2; rw [r1] at this; exact this)).mono (by rintro e w' ⟨rfl, rfl⟩; exact ⟨rfl, Ext.refl _⟩))
            have HMv : Hid (∀ W, Ext wr W → Calls Try.prog 31 #[.pointer (some ⟨ga, 0, none⟩)] W fun e w' => e = .returned (.bool false) ∧ Ext W w') := Lib.hid (fun W x => (moved_ok W ga false (by have := (AJ.out.ext x).cell 6; rw [r1] at this; exact this)).mono (by rintro e w' ⟨rfl, rfl⟩; exact ⟨rfl, Ext.refl _⟩))
            have HCk : Hid (∀ W, Ext wr W → Calls Try.prog 14 #[.pointer (some ⟨gm, 0, none⟩)] W fun e w' => e = .returned (.int .i64 (cl + (j0 : Int) + 2)) ∧ Ext W w') := Lib.hid (fun W x => (memClock_ok (MJ.out.ext x)).mono (by rintro e w' ⟨rfl, rfl⟩; exact ⟨by rw [r3], Ext.refl _⟩))
            have HPe := Lib.hid hpe
            have z0 := fun d os => cell_regrown y0 d os
            have wk : IntKind.i64.wrap (cl + (k : Int)) = cl + (k : Int) := i64w _ (by omega) (by omega)
            have wk2 : IntKind.i64.wrap (cl + (k : Int) + 1) = cl + (k : Int) + 1 := i64w _ (by omega) (by omega)
            have dle : decide (cl + (j0 : Int) + 2 ≤ cl + (k : Int) + 1) = true := by simp; omega
            have dle' : cl + (j0 : Int) + 2 ≤ cl + (k : Int) + 1 := by omega
            have dee : (now == now) = true := by simp
            clear hpe r1 r2 r3 hb1 hb2 hE y0 hj0
            go_wp2_with fail
            refine HPe.out.mono ?_
            rintro e w' ⟨rfl, rfl⟩
            go_wp2_with fail
            refine wp_region_quiet_below (by kernel_rfl) (by kernel_rfl) ?_
            repeat (quiet_step (first
              | (with_reducible exact Calls.regrown_of (HAw.out _))
              | (with_reducible exact Calls.regrown_of (HDo.out _ (grown_extE _ _ _)))
              | (with_reducible exact Calls.regrown_of (HMv.out _ (grown_extE _ _ _)))
              | (with_reducible exact Calls.regrown_of (HCk.out _ (grown_extE _ _ _)))))
            refine wpQuiet_nil ?_
            intro wf hwf
            have XF : Ext wr wf := by
              obtain ⟨⟨dq, osq⟩, hw2⟩ := hwf
              rw [hw2]
              exact grown_extE _ _ _
            clear hwf z0
            go_wp2_with fail
            go_ret
            exact ⟨rfl, (XK.out.trans X9.out).trans XF⟩
          · have hrun := advRun_moves (F := layF k s l b) (T := k) (t := 0) HOm.out (by omega) hE (fun i hi => by rw [HGi.out.2 i (by omega), holds_ins FI.out]; exact mayF_yes HMf.out i hi) j (by omega)
            obtain ⟨r1, r2, r3⟩ := hrun
            rw [r2, show next64 now = now + 1 by unfold next64; omega] at hpe
            rw [HCl.out] at r3
            have HDo : Hid (∀ W, Ext wr W → Calls Try.prog 30 #[.pointer (some ⟨ga, 0, none⟩)] W fun e w' => e = .returned (.bool true) ∧ Ext W w') := Lib.hid (fun W x => (doneAdvance_ok W ga true (by have := (AJ.out.ext x).cell 2; rw [r1] at this; exact this)).mono (by rintro e w' ⟨rfl, rfl⟩; exact ⟨rfl, Ext.refl _⟩))
            have HMv : Hid (∀ W, Ext wr W → Calls Try.prog 31 #[.pointer (some ⟨ga, 0, none⟩)] W fun e w' => e = .returned (.bool true) ∧ Ext W w') := Lib.hid (fun W x => (moved_ok W ga true (by have := (AJ.out.ext x).cell 6; rw [r1] at this; exact this)).mono (by rintro e w' ⟨rfl, rfl⟩; exact ⟨rfl, Ext.refl _⟩))
            have HCk : Hid (∀ W, Ext wr W → Calls Try.prog 14 #[.pointer (some ⟨gm, 0, none⟩)] W fun e w' => e = .returned (.int .i64 (cl + (k : Int) + 2)) ∧ Ext W w') := Lib.hid (fun W x => (memClock_ok (MJ.out.ext x)).mono (by rintro e w' ⟨rfl, rfl⟩; exact ⟨by rw [r3], Ext.refl _⟩))
            have HPe := Lib.hid hpe
            have z0 := fun d os => cell_regrown y0 d os
            have wk : IntKind.i64.wrap (cl + (k : Int)) = cl + (k : Int) := i64w _ (by omega) (by omega)
            have wk2 : IntKind.i64.wrap (cl + (k : Int) + 2) = cl + (k : Int) + 2 := i64w _ (by omega) (by omega)
            have wn1 : IntKind.u64.wrap (now + 1) = now + 1 := u64w _ (by omega) (by omega)
            have dee : (now + 1 == now + 1) = true := by simp
            have dcc : (cl + (k : Int) + 2 == cl + (k : Int) + 2) = true := by simp
            clear hpe r1 r2 r3 hE y0
            go_wp2_with fail
            refine HPe.out.mono ?_
            rintro e w' ⟨rfl, rfl⟩
            go_wp2_with fail
            refine wp_region_quiet_below (by kernel_rfl) (by kernel_rfl) ?_
            repeat (quiet_step (first
              | (with_reducible exact Calls.regrown_of (HAw.out _))
              | (with_reducible exact Calls.regrown_of (HDo.out _ (grown_extE _ _ _)))
              | (with_reducible exact Calls.regrown_of (HMv.out _ (grown_extE _ _ _)))
              | (with_reducible exact Calls.regrown_of (HCk.out _ (grown_extE _ _ _)))))
            refine wpQuiet_nil ?_
            intro wf hwf
            have XF : Ext wr wf := by
              obtain ⟨⟨dq, osq⟩, hw2⟩ := hwf
              rw [hw2]
              exact grown_extE _ _ _
            clear hwf z0
            go_wp2_with fail
            go_ret
            exact ⟨rfl, (XK.out.trans X9.out).trans XF⟩
set_option maxRecDepth 100000 in
set_option maxHeartbeats 4000000 in
theorem epochAlone_no (w : World) (A : Option Addr) (n c : Nat) (t s l b now : Int) (h : ¬ GrOk t s l b ∨ (n : Int) ≠ t) (hn : n ≤ 9223372036854775807) :
    Calls Try.prog 6 #[.agg #[.int .i64 t, .int .i64 s, .int .i64 l, .int .i64 b], .int .u8 now, .slice A n c] w fun e w' => e = .returned (.bool true) ∧ Ext w w' := by
  have X0 := Lib.hid ((Ext.refl w).alloc (.cells #[.int .i64 t, .int .i64 s, .int .i64 l, .int .i64 b] 23))
  have B0 := Lib.hid (Blk.new w 23 [.int .i64 t, .int .i64 s, .int .i64 l, .int .i64 b])
  by_cases hg : GrOk t s l b
  · have h3 : (n : Int) ≠ t := h.resolve_left (fun k => k hg)
    have HY := Lib.hid (fun W => few9_yes t s l b W hg)
    have d3 : ((n : Int) != t) = true := by rw [bne_iff_ne]; exact h3
    have d4 : decide ((n : Int) = t) = false := by simpa using h3
    clear h hg h3
    go_enter Try.func6, Try.ntmps6
    go_upto_region 1 with fail
    generalize w.alloc (.cells #[.int .i64 t, .int .i64 s, .int .i64 l, .int .i64 b] 23) = W0 at *
    have y0 : W0.cell? ⟨w.heap.size, 0, none⟩ = some (.int .i64 t) := B0.out.cell 0
    have y1 : W0.cell? ⟨w.heap.size, 1, none⟩ = some (.int .i64 s) := B0.out.cell 1
    have y2 : W0.cell? ⟨w.heap.size, 2, none⟩ = some (.int .i64 l) := B0.out.cell 2
    have y3 : W0.cell? ⟨w.heap.size, 3, none⟩ = some (.int .i64 b) := B0.out.cell 3
    go_wp2_with fail
    refine (HY.out _).mono ?_
    rintro e w1 ⟨rfl, x1⟩
    have X1 := Lib.hid (X0.out.trans x1)
    have B1 := Lib.hid (B0.out.ext x1)
    clear x1 y0 y1 y2 y3
    have y0 : w1.cell? ⟨w.heap.size, 0, none⟩ = some (.int .i64 t) := B1.out.cell 0
    have y1 : w1.cell? ⟨w.heap.size, 1, none⟩ = some (.int .i64 s) := B1.out.cell 1
    have y2 : w1.cell? ⟨w.heap.size, 2, none⟩ = some (.int .i64 l) := B1.out.cell 2
    have y3 : w1.cell? ⟨w.heap.size, 3, none⟩ = some (.int .i64 b) := B1.out.cell 3
    go_wp2_with fail
    refine (awake10_ok _).mono ?_
    rintro e w2 ⟨rfl, x2⟩
    have X2 := Lib.hid (X1.out.trans x2)
    clear x2
    go_wp2_with fail
    go_ret
    exact ⟨rfl, X2.out⟩
  · have HY := Lib.hid (fun W => few9_no t s l b W hg)
    clear h hg
    go_enter Try.func6, Try.ntmps6
    go_wp2_with fail
    refine (HY.out _).mono ?_
    rintro e w1 ⟨rfl, x1⟩
    have X1 := Lib.hid (X0.out.trans x1)
    clear x1
    go_wp2_with fail
    refine (awake10_ok _).mono ?_
    rintro e w2 ⟨rfl, x2⟩
    have X2 := Lib.hid (X1.out.trans x2)
    clear x2
    go_wp2_with fail
    go_ret
    exact ⟨rfl, X2.out⟩
theorem epochAlone_walk (w : World) (t s l b : Int) (now : Int) (hf : 0 ≤ now ∧ now < 256) (A : Option Addr) (n c : Nat) (zs : List Int) (hl : zs.length = n) (hn : n ≤ 9223372036854775807) (hA : Ints w .u8 A zs) (hz : Lim zs 256) :
    Calls Try.prog 6 #[.agg #[.int .i64 t, .int .i64 s, .int .i64 l, .int .i64 b], .int .u8 now, .slice A n c] w fun e w' => e = .returned (.bool true) ∧ Ext w w' := by
  by_cases h : GrOk t s l b ∧ (n : Int) = t
  · obtain ⟨hg, hn1⟩ := h
    obtain ⟨⟨q0, q1⟩, ⟨q2, q3⟩, ⟨q4, q5⟩, q6, q7⟩ := id hg.1
    obtain ⟨s', rfl⟩ := Int.eq_ofNat_of_zero_le (show 0 ≤ s by omega)
    obtain ⟨l', rfl⟩ := Int.eq_ofNat_of_zero_le (show 0 ≤ l by omega)
    obtain ⟨b', rfl⟩ := Int.eq_ofNat_of_zero_le (show 0 ≤ b by omega)
    subst hn1
    exact epochAlone_yes w A c n s' l' b' now hf zs hl hA hz hg
  · exact epochAlone_no w A n c t s l b now (by
      by_cases hg : GrOk t s l b
      · exact Or.inr (fun h2 => h ⟨hg, h2⟩)
      · exact Or.inl hg) hn

namespace epochAlone
set_option maxRecDepth 100000 in
theorem lifted (os : Os) (started : os.Started) (H : Type) (enc : TypeId × Value → H) :
    ReturnsInHanded {} Try.checked os 6 .any (Rows.epochAloneSpec.pre6 enc Try.prog Try.f6 Rows.epochAloneRow.domain false) (Rows.epochAloneSpec.post enc Try.prog Try.f6 false true false false) := by
  refine returnsInHanded_of_change (C := Try.checked) own started (by kernel_rfl) Try.func6
    (ChangeSpec.witness6 (enc := enc) (C := Try.checked) false ⟨#[], #[.agg #[.int .i64 0, .int .i64 0, .int .i64 0, .int .i64 0], .int .u8 0, .slice none 0 0], []⟩ 8 (by kernel_rfl) (by kernel_rfl) (by kernel_rfl) (by kernel_rfl)) ?_
  intro W base args ds gs before hval0 hW hcnd _
  have hval : ∀ (j : Nat) t v, Try.f6.params[j]? = some t → args[j]? = some v → Value.okWide Try.prog W .any base t v := hval0
  have hW' := hW
  obtain ⟨p, q, hA0, hV, rfl, hfz, hnd⟩ := hW
  have hA : DataW.TrodAll enc Try.prog W 0 (fun _ => true) true Try.f6.params.toList args.toList ds p := hA0
  have hlt : ∀ x ∈ p ++ q, x.block < W.heap.size := fun x hx => hW'.lt x hx
  rw [Try.params6] at hA hval
  have hB := hA
  obtain ⟨v0, vs0, d0, ds0, p0, q0, hargs, rfl, rfl, h0, r0⟩ := trodAll_cons hB
  obtain ⟨v1, vs1, d1, ds1, p1, q1, rfl, rfl, rfl, h1, r1⟩ := trodAll_cons r0
  obtain ⟨v2, vs2, d2, ds2, p2, q2, rfl, rfl, rfl, h2, r2⟩ := trodAll_cons r1
  obtain ⟨rfl, rfl, rfl⟩ := trodAll_nil r2
  obtain rfl : args = #[v0, v1, v2] := by cases args; simp_all
  obtain ⟨rfl, rfl⟩ := trodVars_none hV
  obtain ⟨x0t, x0s, x0l, x0b, rfl, ok0⟩ := view_cfg Try.underlying23 (by kernel_rfl) (by kernel_rfl) Try.underlying3 Try.underlying3 Try.underlying3 Try.underlying3 (hval 0 23 v0 rfl rfl) h0
  obtain ⟨a1, rfl, rfl, rfl, w1⟩ := open_int Try.underlying5 (hval 1 5 v1 rfl rfl) h1
  obtain ⟨A2, c2, z2, rfl, lc2, mc2, I2, w2⟩ := view_ints Try.underlying45 Try.underlying5 (by kernel_rfl) (hval 2 45 v2 rfl rfl) h2
  clear hA0 hval0
  refine (epochAlone_walk W x0t x0s x0l x0b a1 (wf_u8 w1) A2 _ c2 z2 rfl (Nat.le_trans lc2 mc2) I2 (lim_u8 w2)).mono fun e W' ⟨he, hx⟩ => ?_
  subst he
  exact ⟨_, rfl, post_ext (pv := []) hW' (fun _ _ _ => (trodAll_cons_mk (shut_bool Try.underlying4 _) trodAll_mk0)) (fun sp hsp => trodAll_stays laid hx _ _ _ _ (readable_of (by kernel_rfl)) hA (fun x hx => hlt x (by first | (simp at hx ⊢; exact hx) | simp at hx)) (fun x hx => hsp x (by first | (simp at hx ⊢; exact hx) | simp at hx))) (fun _ _ => rfl) rfl hx (ok_one (by kernel_rfl) rfl (okWide_bool_mk Try.underlying4 _))⟩

theorem over : Rows.epochAloneRow.holds Try.pinned (OpenSpec.ofChange Rows.epochAloneSpec) :=
  OpenClaim.holds_of_wide 6 Try.f6 rfl rfl rfl rfl rfl rfl rfl ⟨rfl, rfl, rfl, rfl, rfl⟩ rfl rfl rfl rfl rfl (by kernel_rfl) Try.func6 (by kernel_rfl)
    (of_decide_eq_true (by kernel_rfl)) (by unfold Func.isWrapper; first | (rw [if_pos (by decide +kernel)]; kernel_rfl) | (rw [if_neg (by decide +kernel)]; exact ⟨rfl, rfl⟩))
    (fun os started H enc _ => lifted os started H enc)
end epochAlone

theorem epochAlone_holds : Rows.EpochAloneSaid := epochAlone.over
#print axioms epochAlone_holds
end Go.Proofs.Ytfbobdkfibhcnaa
