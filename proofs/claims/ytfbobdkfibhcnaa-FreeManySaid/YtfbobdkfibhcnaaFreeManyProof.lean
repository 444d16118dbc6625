/- However several threads take and give back between one another, each slot is in the free list once, or had by one: the law answers true for every config and picks, and changes nothing. Conditions: none. -/
import Derived.Test.YtfbobdkfibhcnaaFreeM2
import Derived.Deep.RegionHeld3
import Derived.Deep.DeepCutAuto
import Derived.Deep.CutBlock
import Derived.Deep.MidRow
import Derived.Test.YtfbobdkfibhcnaaMany2
import Derived.Test.YtfbobdkfibhcnaaCfgV
namespace Go.Proofs.Ytfbobdkfibhcnaa
open Go.ChangeShapes Go.WideShapes Go.ChangeAt Go.RowKit
set_option linter.unusedVariables false

theorem hand_info : (Try.prog.info? 48).map (fun i => (i.zero, i.size, i.bytes)) = some (some (.agg #[.pointer none, .pointer none, .int .i64 0]), 3, 24) := by kernel_rfl
def z3 : List Value := [.pointer none, .pointer none, .int .i64 0]
theorem make_hands (n : Nat) (hc : n ≤ 1000000000) (W : World) :
    (Instr.makeSlice 46 (.int .i64 (n : Int)) (.int .i64 (n : Int))).run Try.prog W = .ok (.slice (some ⟨W.heap.size, 0, none⟩) n n) (W.alloc (.cells (madeCells #[.pointer none, .pointer none, .int .i64 0] (n * 3)) 48)) := by
  obtain ⟨i, hi, hz1, hz2, hz3⟩ := info_parts hand_info
  have h := run_makeInts (k := .u8) Try.underlying46 hi hz1 hz2 n n (Nat.le_refl _) (by rw [hz3]; omega) (by unfold maxLen; omega) W
  exact h
theorem made_hands (n : Nat) : madeCells #[.pointer none, .pointer none, .int .i64 0] (n * 3) = (((List.range n).map fun _ => z3).flatten).toArray := by
  have hlen : ∀ r ∈ (List.range n).map (fun _ => z3), r.length = 3 := fun r hr => by
    obtain ⟨i, _, e⟩ := List.mem_map.1 hr
    rw [← e]
    rfl
  have hl : (((List.range n).map fun _ => z3).flatten).length = n * 3 := by
    rw [List.length_flatten, List.map_map]
    have : ((fun x : List Value => x.length) ∘ fun (_ : Nat) => z3) = fun _ => 3 := by funext i; rfl
    rw [show (List.length ∘ fun (_ : Nat) => z3) = (fun (_ : Nat) => 3) from by funext i; rfl]
    simp [List.map_const', List.sum_replicate_nat]
  apply Array.ext
  · simp [madeCells, hl]
  · intro i h1 h2
    have hi : i < n * 3 := by simpa [madeCells] using h1
    have hd : i / 3 * 3 + i % 3 = i := by omega
    have hr : i % 3 < 3 := Nat.mod_lt _ (by decide)
    have hq : i / 3 < n := by omega
    have key := flat_get (sz := 3) ((List.range n).map fun _ => z3) (i / 3) (i % 3) hlen hr
    rw [hd, List.getElem?_map, List.getElem?_range hq] at key
    have e2 : (((List.range n).map fun _ => z3).flatten)[i]? = some ((((List.range n).map fun _ => z3).flatten)[i]'(by rw [hl]; exact hi)) := List.getElem?_eq_getElem _
    rw [e2] at key
    have key2 : some ((((List.range n).map fun _ => z3).flatten)[i]'(by rw [hl]; exact hi)) = z3[i % 3]? := key
    have e3 : (madeCells #[.pointer none, .pointer none, .int .i64 0] (n * 3))[i] = #[Value.pointer none, .pointer none, .int .i64 0][i % 3]! := by simp [madeCells]
    rw [e3, List.getElem_toArray]
    have hc : i % 3 = 0 ∨ i % 3 = 1 ∨ i % 3 = 2 := by omega
    rcases hc with e | e | e <;> rw [e] at key2 ⊢ <;> exact (Option.some.inj key2).symm
/-- Rows and machines while they are laid. -/
def rowK (gs : Nat → Nat) (k i : Nat) : List Value := if i < k then [.pointer (some ⟨gs i, 0, none⟩), .pointer none, .int .i64 (-1)] else z3
def ownK (gl : Nat) (gs : Nat → Nat) (k i : Nat) : Owned := if i < k then some (gs i, 98, fcells gl i 0 0 false 0) else none
def newH (gs : Nat → Nat) (i : Nat) : Hd := ⟨true, gs i, ⟨0, 0, 0, false⟩⟩
theorem rowsK_end (gs : Nat → Nat) (T : Nat) : (List.range T).map (rowK gs T) = ((List.range T).map (newH gs)).map Hd.cells := by
  rw [List.map_map]
  exact mapR_eq _ _ _ (fun i hi => by unfold rowK; rw [if_pos hi]; rfl)
theorem ownsK_end (gl : Nat) (gs : Nat → Nat) (T : Nat) : (List.range T).map (ownK gl gs T) = ((List.range T).map (newH gs)).mapIdx (Hd.own gl) := by
  refine List.ext_getElem? (fun j => ?_)
  rw [List.getElem?_mapIdx, List.getElem?_map, List.getElem?_map]
  by_cases hj : j < T
  · rw [List.getElem?_range hj]
    show some (ownK gl gs T j) = some (Hd.own gl j (newH gs j))
    unfold ownK
    rw [if_pos hj]
    rfl
  · rw [List.getElem?_eq_none (by simp; omega)]
    rfl
theorem hadC_new (gs : Nat → Nat) (k : Int) (T : Nat) : hadC k ((List.range T).map (newH gs)) = 0 := by
  generalize List.range T = R
  induction R with
  | nil => rfl
  | cons a R ih =>
    show had1 k (newH gs a) + hadC k (R.map (newH gs)) = 0
    rw [ih]
    rfl
theorem upN_ch {nx : Int → Int} {n : Nat} (h1 : ∀ i : Nat, i + 1 < n → nx i = (i : Int) + 1) (h2 : ∀ i : Nat, i + 1 = n → nx i = -1) : ∀ (j k : Nat), j + k = n → IsCh nx (if k < n then (k : Int) else -1) ((List.range' k j).map fun (i : Nat) => (i : Int))
  | 0, k, h => by
    rw [if_neg (by omega)]
    rfl
  | j + 1, k, h => by
    rw [if_pos (by omega), List.range'_succ]
    refine ⟨rfl, ?_⟩
    have key := upN_ch h1 h2 j (k + 1) (by omega)
    by_cases hk : k + 1 < n
    · rw [if_pos hk] at key
      rw [h1 k hk]
      exact key
    · rw [if_neg hk] at key
      rw [h2 k (by omega)]
      exact key
theorem upN_count {n k : Nat} (h : k < n) : (upN n).count (k : Int) = 1 := by
  induction n with
  | zero => omega
  | succ n ih =>
    rw [upN_succ, List.count_append, List.count_singleton]
    by_cases e : k = n
    · subst e
      have h0 : (upN k).count (k : Int) = 0 := List.count_eq_zero.2 (fun m => by have := upN_mem.1 m; omega)
      rw [h0]
      simp
    · rw [ih (by omega)]
      have : ((n : Int) == (k : Int)) = false := by rw [beq_eq_false_iff_ne]; omega
      rw [this]
      rfl
theorem many_start {t s l b : Nat} (gs : Nat → Nat) (hs1 : s ≤ 1000) {st : MSt} (h : FreeAt t s l b s st) (hv : verN (peekV st (-2)) ≤ 0) : FM t s l b 0 ((List.range t).map (newH gs)) (upN s) st :=
  ⟨h.ok, by
    rw [h.top]
    have key := upN_ch (nx := nextS (layF t s l b) st) h.nx h.nl s 0 (by omega)
    rw [← List.range_eq_range'] at key
    exact key, hv, fun x m => upN_mem.1 m, fun k k0 k1 => by
    obtain ⟨k', rfl⟩ := Int.eq_ofNat_of_zero_le k0
    rw [hadC_new, upN_count (by omega)], fun i h e => by
    rw [List.getElem?_map] at e
    by_cases hi : i < t
    · rw [List.getElem?_range hi] at e
      injection e with e
      rw [← e]
      exact HI.new _ _ _ _
    · rw [List.getElem?_eq_none (by simp; omega)] at e
      cases e⟩
theorem ground_ver {t s l b n : Nat} (hn : n ≤ s) (hs1 : s ≤ 1000000) : verN (peekV (groundSt t s l b (rowPs (layF t s l b) (upN n) n)) (-2)) ≤ 0 := by
  have h := (ground_free (t := t) (l := l) (b := b) hn hs1)
  have pl : ∀ i, i < n → (rowP (layF t s l b) (upN n) i).1 = if i = 0 then -2 else -3 - (t : Int) - ((i - 1 : Nat) : Int) := fun i hi => by
    unfold rowP
    by_cases h : i = 0
    · rw [if_pos h, if_pos h]
    · rw [if_neg h, if_neg h]
      show aft (layF t s l b) ((upN n).getD (i - 1) 0) = _
      rw [upN_at (by omega), aft_at (by omega) (by omega)]
  have key := putAll_peek (MOk.start t s l b) (rowP (layF t s l b) (upN n)) (fun _ => Or.inr trivial) n (fun i hi => by
    rw [pl i hi]
    split <;> omega) (fun i j hij hj => by
    rw [pl i (by omega), pl j hj, if_neg (show ¬ j = 0 by omega)]
    split <;> omega)
  have e0 : groundSt t s l b (rowPs (layF t s l b) (upN n) n) = putAll (startSt t s l b) ((List.range n).map (rowP (layF t s l b) (upN n))) := rfl
  rw [e0]
  by_cases h0 : 0 < n
  · have h1 := key.1 0 h0
    rw [pl 0 h0, if_pos rfl] at h1
    rw [h1]
    show verN ((upN n).getD 0 0 + 1) ≤ 0
    rw [upN_at h0]
    decide
  · have h1 := key.2 (-2) (fun i hi => absurd hi (by omega))
    rw [h1, start_peek]
    decide
theorem cells_len (h : Hd) : h.cells.length = 3 := rfl
theorem rowsH_len (hs : List Hd) : ∀ r ∈ hs.map Hd.cells, r.length = 3 := fun r hr => by
  obtain ⟨h, _, e⟩ := List.mem_map.1 hr
  rw [← e]
  rfl
theorem rowsH_slot {hs : List Hd} {i : Nat} (h : i < hs.length) : (hs.map Hd.cells).flatten[i * 3 + 2]? = some (.int .i64 ((hs.map fun h => if h.pop = true then (-1 : Int) else h.x.y).getD i 0)) := by
  rw [flat_get _ _ _ (rowsH_len hs) (by decide), List.getElem?_map, List.getD_eq_getElem?_getD, List.getElem?_map, List.getElem?_eq_getElem h]
  rfl
theorem FM.slots {t s l b n : Nat} {hs : List Hd} {L : List Int} {st : MSt} (h : FM t s l b n hs L st) {i : Nat} (hi : i < hs.length) : -1 ≤ (hs.map fun h => if h.pop = true then (-1 : Int) else h.x.y).getD i 0 ∧ (hs.map fun h => if h.pop = true then (-1 : Int) else h.x.y).getD i 0 < (s : Int) := by
  rw [List.getD_eq_getElem?_getD, List.getElem?_map, List.getElem?_eq_getElem hi]
  have k := h.each i hs[i] (List.getElem?_eq_getElem hi)
  show -1 ≤ (if hs[i].pop = true then (-1 : Int) else hs[i].x.y) ∧ (if hs[i].pop = true then (-1 : Int) else hs[i].x.y) < (s : Int)
  by_cases e : hs[i].pop = true
  · rw [if_pos e]
    omega
  · rw [if_neg e]
    have := k.yr (by simpa using e)
    omega
/-- Where a thread has stepped, and what it has then. -/
theorem setH {hs : List Hd} {gl tt : Nat} {h' : Hd} {r : List Value} {o : Owned} (hlt : tt < hs.length) (hr : r = h'.cells) (ho : o = h'.own gl tt) : (hs.map Hd.cells).set tt r = (hs.set tt h').map Hd.cells ∧ (hs.mapIdx (Hd.own gl)).set tt o = (hs.set tt h').mapIdx (Hd.own gl) := by
  refine ⟨by rw [List.map_set, hr], ?_⟩
  rw [mapIdx_set9 _ _ _ _ hlt, ho]
theorem pushS_y (F : Nat → Int) (t : Int) (x : PMs) (s : MSt) : (pushS F t x s).1.y = x.y := by
  unfold pushS
  (repeat' split) <;> rfl
set_option maxRecDepth 100000 in
set_option maxHeartbeats 8000000 in
theorem freeMany_yes (w : World) (A : Option Addr) (n c : Nat) (t s l b : Nat) (zs : List Int) (hl : zs.length = n) (hn0 : n ≤ 9223372036854775807) (hA : Ints w .u8 A zs) (hz : Lim zs 256) (hg : GrOk t s l b) :
    Calls Try.prog 4 #[.agg #[.int .i64 t, .int .i64 s, .int .i64 l, .int .i64 b], .slice A n c] w fun e w' => e = .returned (.bool true) ∧ Ext w w' := by
  have X0 := Lib.hid ((Ext.refl w).alloc (.cells #[.int .i64 t, .int .i64 s, .int .i64 l, .int .i64 b] 23))
  have B0 := Lib.hid (Blk.new w 23 [.int .i64 t, .int .i64 s, .int .i64 l, .int .i64 b])
  have HY := Lib.hid (fun W => few9_yes t s l b W hg)
  have HI := Lib.hid hA
  have HZ := Lib.hid hz
  have HL := Lib.hid hl
  have HG := Lib.hid hg
  obtain ⟨hc, h1, h2, h3, h4⟩ := id hg
  obtain ⟨⟨q0, q1⟩, ⟨q2, q3⟩, ⟨q4, q5⟩, q6, q7⟩ := id hc
  have HOk := Lib.hid (okayF hc)
  have HCf : Hid (CfgN t s l b) := Lib.hid ⟨by omega, by omega, by omega, by omega, by omega⟩
  have HF22 : Hid (layF t s l b 22 = -2) := Lib.hid rfl
  have HF1 : Hid (layF t s l b 1 = (s : Int)) := Lib.hid rfl
  have t1 : 1 ≤ t := by omega
  have t6 : t ≤ 6 := by omega
  have s30 : s ≤ 30 := by omega
  have s1 : 1 ≤ s := by omega
  have hmk := fun W => make_hands t (by omega) W
  have HMd := Lib.hid (made_hands t)
  generalize madeCells #[.pointer none, .pointer none, .int .i64 0] (t * 3) = MW at *
  have HAw := Lib.hid (fun W => awake9_ok W)
  clear hA hz hl hg hc h1 h2 h3 h4 q0 q1 q2 q3 q4 q5 q6 q7
  go_enter Try.func4, Try.ntmps4
  go_upto_region 1 with fail
  generalize w.alloc (.cells #[.int .i64 t, .int .i64 s, .int .i64 l, .int .i64 b] 23) = W0 at *
  have y0 : W0.cell? ⟨w.heap.size, 0, none⟩ = some (.int .i64 t) := B0.out.cell 0
  have y1 : W0.cell? ⟨w.heap.size, 1, none⟩ = some (.int .i64 s) := B0.out.cell 1
  have y2 : W0.cell? ⟨w.heap.size, 2, none⟩ = some (.int .i64 l) := B0.out.cell 2
  have y3 : W0.cell? ⟨w.heap.size, 3, none⟩ = some (.int .i64 b) := B0.out.cell 3
  go_wp2_with fail
  refine (HY.out _).mono ?_
  rintro e w1 ⟨rfl, x1⟩
  have X1 := Lib.hid (X0.out.trans x1)
  have B1 := Lib.hid (B0.out.ext x1)
  clear x1 y0 y1 y2 y3 X0 B0 HY
  go_upto_block 0 with fail
  go_cut [5] (fun s5 wx => Row wx w.heap.size 3 .i64 s5 (upN s) ∧ Ext w wx ∧ Blk wx w.heap.size 23 [.int .i64 t, .int .i64 s, .int .i64 l, .int .i64 b])
  case first =>
    go_wp2_with fail
    go_loopw [5, 6] (fun v i wr => ∃ (k : Nat) (vv : Value), k ≤ s ∧ i = .int .i64 k ∧ vv = v ∧ Row wr w.heap.size 3 .i64 vv (upN k) ∧ Ext w wr ∧ Blk wr w.heap.size 23 [.int .i64 t, .int .i64 s, .int .i64 l, .int .i64 b] ∧ vv.ownBlock ≠ some w.heap.size) (fun _ i _ => s - (intOf i).toNat)
    case atStart => exact ⟨0, _, Nat.zero_le _, rfl, rfl, Row.nil _ _ _ _, X1.out, B1.out, by simp [Value.ownBlock]⟩
    case round =>
      obtain ⟨k, vv, hk, rfl, rfl, row, xk, bk, ob⟩ := hrel
      have RW := Lib.hid row
      have XK := Lib.hid xk
      have BK := Lib.hid bk
      have OB := Lib.hid ob
      clear row xk bk ob X1 B1
      have y0 : wr.cell? ⟨w.heap.size, 0, none⟩ = some (.int .i64 t) := BK.out.cell 0
      have y1 : wr.cell? ⟨w.heap.size, 1, none⟩ = some (.int .i64 s) := BK.out.cell 1
      have y2 : wr.cell? ⟨w.heap.size, 2, none⟩ = some (.int .i64 l) := BK.out.cell 2
      have y3 : wr.cell? ⟨w.heap.size, 3, none⟩ = some (.int .i64 b) := BK.out.cell 3
      by_cases hlt : k < s
      · have d1 : decide ((k : Int) < (s : Int)) = true := by simp; omega
        have d1' : decide (k < s) = true := by simp; omega
        have d3 : decide ((k : Int) < 30) = true := by simp; omega
        have d3' : decide (k < 30) = true := by simp; omega
        have hbl := BK.out.lt
        have HLl : Hid ((upN k).length < 1000000000) := Lib.hid (by rw [upN_len]; omega)
        go_wp2_with ((at_builtin; refine Hid.out ?_))
        refine Lib.hid ?_
        refine wpList_pushOff rfl _ _ 26 rfl 3 .i64 8 int_info (by decide) Try.underlying26 w wr vv (upN k) (k : Int) (by rfl) RW.out XK.out (by rfl) HLl.out ?_
        intro v' w5 h1 h2 h3
        have R5 := Lib.hid h1
        have X5 := Lib.hid h2
        obtain ⟨a1, a2⟩ := h3 w.heap.size hbl OB.out
        have B5 := Lib.hid (show Blk w5 w.heap.size 23 [.int .i64 t, .int .i64 s, .int .i64 l, .int .i64 b] from a1.trans BK.out)
        have O5 := Lib.hid a2
        rw [← upN_succ] at R5
        clear h1 h2 h3 a1 a2 y0 y1 y2 y3
        go_wp2_with fail
        go_roundw
        case rel => exact ⟨k + 1, v', by omega, by go_num, rfl, R5.out, X5.out, B5.out, O5.out⟩
        case measure => simp [intOf]; omega
      · obtain rfl : k = s := by omega
        have d1 : decide ((k : Int) < (k : Int)) = false := by simp
        have d1' : decide (k < k) = false := by simp
        go_wp2_with fail
        go_meet
        exact ⟨RW.out, XK.out, BK.out⟩
  case rest =>
    obtain ⟨row, xr, br⟩ := hcut
    obtain ⟨Av, cv, hv, hIv, hbig⟩ := row_at row
    rw [upN_len] at hv
    subst hv
    generalize wc = w2 at *
    have X2 := Lib.hid xr
    have B2 := Lib.hid br
    have HRo := Lib.hid (rows_ok HCf.out HOk.out w2 Av s cv (upN s) (upN_len s) (by omega) hIv (fun i hi => by rw [upN_at hi]; omega))
    have HLa := Lib.hid (fun (W : World) (A : Option Addr) (c : Nat) (h : PutsAt W A (rowPs (layF t s l b) (upN s) s)) => lay_ok W A s c t s l b (rowPs (layF t s l b) (upN s) s) HG.out (rowPs_len _ _ _) (by omega) h)
    have HFa := Lib.hid (ground_free (t := t) (l := l) (b := b) (Nat.le_refl s) (by omega))
    have HVe := Lib.hid (ground_ver (t := t) (l := l) (b := b) (Nat.le_refl s) (by omega))
    have hcal := putAll_calm (s := startSt t s l b) rfl rfl (rowPs (layF t s l b) (upN s) s) s (by rw [rowPs_len]; exact Nat.le_refl _)
    rw [List.take_of_length_le (by rw [rowPs_len]; exact Nat.le_refl _)] at hcal
    have HCa : Hid (CalmN 30 (groundSt t s l b (rowPs (layF t s l b) (upN s) s))) := Lib.hid (CalmN.mono hcal (by omega))
    clear row xr br hIv hbig hcal X1 B1
    have y0 : w2.cell? ⟨w.heap.size, 0, none⟩ = some (.int .i64 t) := B2.out.cell 0
    have y1 : w2.cell? ⟨w.heap.size, 1, none⟩ = some (.int .i64 s) := B2.out.cell 1
    have y2 : w2.cell? ⟨w.heap.size, 2, none⟩ = some (.int .i64 l) := B2.out.cell 2
    have y3 : w2.cell? ⟨w.heap.size, 3, none⟩ = some (.int .i64 b) := B2.out.cell 3
    go_wp2_with fail
    refine HRo.out.mono ?_
    rintro e w3 ⟨A3, c3, rfl, hp, x3⟩
    rw [rowPs_len]
    have HLa3 := Lib.hid (HLa.out w3 A3 c3 hp)
    have X3 := Lib.hid (X2.out.trans x3)
    have B3 := Lib.hid (B2.out.ext x3)
    clear hp x3 HRo HLa y0 y1 y2 y3 X2 B2
    go_wp2_with fail
    refine HLa3.out.mono ?_
    rintro e w4 ⟨gl, gm, dv, pv, g, R, rv, rfl, bl, gr⟩
    obtain ⟨s0, hs0⟩ : ∃ s0, groundSt t s l b (rowPs (layF t s l b) (upN s) s) = s0 := ⟨_, rfl⟩
    rw [hs0] at gr HFa HCa HVe
    have B4 := Lib.hid (B3.out.ext gr.mem.lt.1)
    have BL := Lib.hid bl
    have GR := Lib.hid gr
    clear bl gr hs0 HLa3
    have y0 : w4.cell? ⟨w.heap.size, 0, none⟩ = some (.int .i64 t) := B4.out.cell 0
    have y1 : w4.cell? ⟨w.heap.size, 1, none⟩ = some (.int .i64 s) := B4.out.cell 1
    have y2 : w4.cell? ⟨w.heap.size, 2, none⟩ = some (.int .i64 l) := B4.out.cell 2
    have y3 : w4.cell? ⟨w.heap.size, 3, none⟩ = some (.int .i64 b) := B4.out.cell 3
    by_cases hn : n ≤ 300
    case neg =>
      have d300 : decide (300 < n) = true := by simp; omega
      have d300' : decide ((300 : Int) < (n : Int)) = true := by simp; omega
      have X4 := Lib.hid (X3.out.trans GR.out.mem.lt.1)
      go_wp2_with fail
      refine (HAw.out _).mono ?_
      rintro e wz ⟨rfl, xz⟩
      have XZ := Lib.hid (X4.out.trans xz)
      clear xz
      go_wp2_with fail
      go_ret
      exact ⟨rfl, XZ.out⟩
    have d300 : decide (300 < n) = false := by simp; omega
    have d300' : decide ((300 : Int) < (n : Int)) = false := by simp; omega
    go_wp2_with fail
    have x5 := (Ext.refl w4).alloc (.cells MW 48)
    have A5 : Hid (ManyAt 48 w3 (w4.alloc (.cells MW 48)) gm dv pv gl w4.heap.size (layF t s l b) ((List.range t).map (rowK (fun _ => 0) 0)) ((List.range t).map (ownK gl (fun _ => 0) 0)) s0) := Lib.hid (by
      have hbl := BL.out.lt
      have bh := Blk.new w4 48 (((List.range t).map fun _ => z3).flatten)
      rw [← HMd.out] at bh
      have no : ∀ (i : Nat) (p : Nat × TypeId × List Value), ((List.range t).map (ownK gl (fun _ => 0) 0))[i]? ≠ some (some p) := fun i p e => by
        rw [List.getElem?_map] at e
        cases h : (List.range t)[i]? with
        | none => rw [h] at e; cases e
        | some v => rw [h] at e; simp [ownK] at e
      refine ⟨GR.out.mem.hold x5 (fun q hq => ?_), BL.out.ext x5, ?_, fun i p e => absurd e (no i p), fun i j p q e => absurd e (no i p), by omega, GR.out.mem.lt.1.size⟩
      · rcases hq with e | e | ⟨i, p, e, _⟩
        · rw [e]; exact ⟨by simp; omega, Or.inl (Or.inr rfl)⟩
        · rw [e]; exact ⟨by simp, Or.inr (Nat.le_refl _)⟩
        · exact absurd e (no i p)
      · have e : (List.range t).map (rowK (fun _ => 0) 0) = (List.range t).map fun _ => z3 := mapR_eq _ _ _ (fun i _ => rfl)
        rw [e]
        exact bh)
    generalize w4.alloc (.cells MW 48) = W5 at *
    generalize w4.heap.size = gh at *
    clear x5 hmk HMd y0 y1 y2 y3 B4 BL GR
    go_loopw [12] (fun i wr => ∃ (k : Nat) (gs : Nat → Nat), k ≤ t ∧ i = .int .i64 k ∧ ManyAt 48 w3 wr gm dv pv gl gh (layF t s l b) ((List.range t).map (rowK gs k)) ((List.range t).map (ownK gl gs k)) s0) (fun i _ => t - (intOf i).toNat)
    case atStart => exact ⟨0, _, Nat.zero_le _, rfl, A5.out⟩
    case round =>
      obtain ⟨k, gs, hk, rfl, ha⟩ := hrel
      have HA := Lib.hid ha
      have HB := Lib.hid (B3.out.ext ha.m.lt.1)
      clear ha A5
      have y0 : wr.cell? ⟨w.heap.size, 0, none⟩ = some (.int .i64 t) := HB.out.cell 0
      have y1 : wr.cell? ⟨w.heap.size, 1, none⟩ = some (.int .i64 s) := HB.out.cell 1
      have y2 : wr.cell? ⟨w.heap.size, 2, none⟩ = some (.int .i64 l) := HB.out.cell 2
      have y3 : wr.cell? ⟨w.heap.size, 3, none⟩ = some (.int .i64 b) := HB.out.cell 3
      by_cases hlt : k < t
      · have v1 : decide (k < t) = true := by simp; omega
        have v1' : decide ((k : Int) < (t : Int)) = true := by simp; omega
        go_wp2_with fail
        refine (newPop_ok wr gl (k : Int)).mono ?_
        rintro e w6 ⟨g6, rfl, l6, b6, x6⟩
        have hrl : ∀ r ∈ (List.range t).map (rowK gs k), r.length = 3 := fun r hr => by
          obtain ⟨i, _, e⟩ := List.mem_map.1 hr
          rw [← e]
          unfold rowK
          split <;> rfl
        have H6 := (HAt.of HA.out hrl (tt := k) (r := z3) (o := none) (by rw [List.getElem?_map, List.getElem?_range hlt]; simp [rowK]) (by rw [List.getElem?_map, List.getElem?_range hlt]; simp [ownK])).take x6 (q := (g6, 98, fcells gl k 0 0 false 0)) l6 b6
        have f0 : w6.frozen? ⟨gh, k * 3, none⟩ = false := H6.frozen 0
        have HTh : Hid (w6.there gh (k * 3) 3) := Lib.hid (fun i hi => ⟨by
          rw [H6.cell hi]
          have : i = 0 ∨ i = 1 ∨ i = 2 := by omega
          rcases this with rfl | rfl | rfl <;> rfl, H6.frozen i⟩)
        have H7 := ((H6.put (f := 0) (by decide) (.pointer (some ⟨g6, 0, none⟩))).put (f := 1) (by decide) (.pointer none)).put (f := 2) (by decide) (.int .i64 (-1))
        have HN : Hid (ManyAt 48 w3 (((w6.setCell ⟨gh, k * 3 + 0, none⟩ (.pointer (some ⟨g6, 0, none⟩))).setCell ⟨gh, k * 3 + 1, none⟩ (.pointer none)).setCell ⟨gh, k * 3 + 2, none⟩ (.int .i64 (-1))) gm dv pv gl gh (layF t s l b) ((List.range t).map (rowK (fun i => if i = k then g6 else gs i) (k + 1))) ((List.range t).map (ownK gl (fun i => if i = k then g6 else gs i) (k + 1))) s0) := Lib.hid (by
          have e1 := mapR_set (rowK gs k) t k [.pointer (some ⟨g6, 0, none⟩), .pointer none, .int .i64 (-1)] hlt
          have e2 := mapR_set (ownK gl gs k) t k (some (g6, 98, fcells gl k 0 0 false 0)) hlt
          have e3 : (List.range t).map (rowK (fun i => if i = k then g6 else gs i) (k + 1)) = ((List.range t).map (rowK gs k)).set k [.pointer (some ⟨g6, 0, none⟩), .pointer none, .int .i64 (-1)] := by
            rw [e1]
            refine mapR_eq _ _ _ (fun i _ => ?_)
            unfold rowK
            dsimp only
            by_cases e : i = k
            · subst e
              simp
            · by_cases e' : i < k
              · rw [if_pos (by omega), if_neg e, if_pos e', if_neg e]
              · rw [if_neg (by omega), if_neg e, if_neg e']
          have e4 : (List.range t).map (ownK gl (fun i => if i = k then g6 else gs i) (k + 1)) = ((List.range t).map (ownK gl gs k)).set k (some (g6, 98, fcells gl k 0 0 false 0)) := by
            rw [e2]
            refine mapR_eq _ _ _ (fun i _ => ?_)
            unfold ownK
            dsimp only
            by_cases e : i = k
            · subst e
              simp
            · by_cases e' : i < k
              · rw [if_pos (by omega), if_neg e, if_pos e', if_neg e]
              · rw [if_neg (by omega), if_neg e, if_neg e']
          rw [e3, e4]
          exact H7.m)
        clear H6 H7 l6 b6 x6 HA HB hrl y0 y1 y2 y3 f0
        go_wp2_with ((with_reducible refine (id ?_ : wpList _ _ _ ({ dst := none, op := Op.store _ _ _, type := _, pos := _, after := _, guard := _ } :: _) _ _)); refine Hid.out ?_)
        refine Lib.hid ?_
        refine wpList_store_mid rfl _ (.tmp 66) (.tmp 65) rfl gh (k * 3) #[.pointer (some ⟨g6, 0, none⟩), .pointer none, .int .i64 (-1)] (by rfl) (by rfl) HTh.out (by kernel_rfl) (by simp [Value.oneCell']) ?_
        go_wp2_with fail
        go_roundw
        case rel => exact ⟨k + 1, _, by omega, by go_num, HN.out⟩
        case measure => simp [intOf]; omega
      · obtain rfl : k = t := by omega
        have v1 : decide (k < k) = false := by simp
        have v1' : decide ((k : Int) < (k : Int)) = false := by simp
        have A6 : Hid (ManyAt 48 w3 wr gm dv pv gl gh (layF k s l b) (((List.range k).map (newH gs)).map Hd.cells) (((List.range k).map (newH gs)).mapIdx (Hd.own gl)) s0) := Lib.hid (by rw [← rowsK_end, ← ownsK_end]; exact HA.out)
        have I6 := Lib.hid (many_start (t := k) (s := s) (l := l) (b := b) gs (by omega) HFa.out HVe.out)
        have L6 : Hid (((List.range k).map (newH gs)).length = k) := Lib.hid (by simp)
        clear HA HFa HVe
        generalize (List.range k).map (newH gs) = hs0 at *
        go_wp2_with fail
        clear HB y0 y1 y2 y3
        generalize wr = w7 at *
        go_loopw [13] (fun i wr => ∃ (j : Nat) (hs : List Hd) (L : List Int) (sk : MSt), j ≤ n ∧ i = .int .i64 j ∧ hs.length = k ∧ ManyAt 48 w3 wr gm dv pv gl gh (layF k s l b) (hs.map Hd.cells) (hs.mapIdx (Hd.own gl)) sk ∧ FM k s l b j hs L sk ∧ CalmN (30 + (j : Int)) sk) (fun i _ => n - (intOf i).toNat)
        case atStart => exact ⟨0, hs0, _, s0, Nat.zero_le _, rfl, L6.out, A6.out, I6.out, by simpa using HCa.out⟩
        case round =>
          obtain ⟨j, hs, L, sk, hj, rfl, hlen, ha, hi, hca⟩ := hrel
          have HA := Lib.hid ha
          have HM := Lib.hid hi
          have HC := Lib.hid hca
          have HN := Lib.hid hlen
          have HB := Lib.hid (B3.out.ext ha.m.lt.1)
          have XK := Lib.hid (X3.out.trans ha.m.lt.1)
          clear ha hi hca hlen A6 I6 L6
          by_cases hlt : j < n
          · have v2 : decide (j < n) = true := by simp; omega
            obtain ⟨ad, hAd, _, hcc⟩ := (HI.out.ext XK.out) (by have := HL.out; omega)
            have p0 := hcc j (by have := HL.out; omega)
            have zr := HZ.out j (by have := HL.out; omega)
            generalize zs.getD j 0 = z at *
            obtain ⟨zn, rfl⟩ := Int.eq_ofNat_of_zero_le zr.1
            subst hAd
            clear hcc
            have y0 : wr.cell? ⟨w.heap.size, 0, none⟩ = some (.int .i64 k) := HB.out.cell 0
            have y1 : wr.cell? ⟨w.heap.size, 1, none⟩ = some (.int .i64 s) := HB.out.cell 1
            have y2 : wr.cell? ⟨w.heap.size, 2, none⟩ = some (.int .i64 l) := HB.out.cell 2
            have y3 : wr.cell? ⟨w.heap.size, 3, none⟩ = some (.int .i64 b) := HB.out.cell 3
            obtain ⟨tt, htt⟩ : ∃ tt, zn % k = tt := ⟨_, rfl⟩
            have hm0 : ((zn : Int)).tmod (k : Int) = (tt : Int) := by
              rw [Int.tmod_eq_emod_of_nonneg (by omega), ← htt]
              rfl
            have htl : tt < k := by rw [← htt]; exact Nat.mod_lt _ (by omega)
            have ht0 : ((k : Int) == 0) = false := by rw [beq_eq_false_iff_ne]; omega
            have ht0' : ¬ (k : Int) = 0 := by omega
            clear htt
            go_wp2_with fail
            go_quiet (fail)
            go_upto_region 21 with fail
            have xq := ext_drewN (Ext.refl wr) nq
            have HAq := Lib.hid (HA.out.ext xq)
            have HBq := Lib.hid (HB.out.ext xq)
            clear xq HA XK HB p0 y0 y1 y2 y3 hm0
            generalize wr.drewN nq = wq at *
            obtain ⟨h0, e0⟩ : ∃ h0, hs[tt]? = some h0 := ⟨hs[tt]'(by rw [HN.out]; exact htl), List.getElem?_eq_getElem _⟩
            have hlt2 : tt < hs.length := by rw [HN.out]; exact htl
            have er : (hs.map Hd.cells)[tt]? = some h0.cells := by rw [List.getElem?_map, e0]; rfl
            have eo : (hs.mapIdx (Hd.own gl))[tt]? = some (h0.own gl tt) := by rw [List.getElem?_mapIdx, e0]; rfl
            have HH := HAt.of HAq.out (rowsH_len hs) er eo
            have hU := fun a => HAq.out.m.peekU a
            have hwf := (HM.out.each tt h0 e0).wf
            obtain ⟨pp, gp, x⟩ := h0
            have bx : Blk wq gp (if pp = true then 98 else 107) (x.cells gl tt) := HH.blk
            cases pp
            · -- it gives back
              have HFm := HM.out.push (by omega) (by omega) hU e0 rfl (tt : Int)
              have HPu := Lib.hid (pushStep_ok HAq.out.m (HC.out.calm (by omega)) HOk.out hwf bx HAq.out.l HF22.out (Or.inr (Or.inr ⟨tt, _, eo, rfl⟩)) (Or.inl rfl) (HAq.out.a tt _ eo).2.2.2)
              have HWf := Lib.hid (pushS_wf (F := layF k s l b) (t := (tt : Int)) hU hwf HC.out)
              have HFM := Lib.hid HFm
              have c0 : wq.cell? ⟨gh, tt * 3, none⟩ = some (.pointer none) := HH.cell (f := 0) (by decide)
              have c1 : wq.cell? ⟨gh, tt * 3 + 1, none⟩ = some (.pointer (some ⟨gp, 0, none⟩)) := HH.cell (f := 1) (by decide)
              have EO := Lib.hid eo
              have E0 := Lib.hid e0
              have hyk : (pushS (layF k s l b) (tt : Int) x sk).1.y = x.y := pushS_y _ _ _ _
              clear HFm HH hU hwf bx er eo e0 HM
              generalize pushS (layF k s l b) (tt : Int) x sk = r at *
              obtain ⟨y, s'⟩ := r
              have HYk := Lib.hid hyk
              clear hyk
              go_upto_if 96 with fail
              go_cut [14] (fun s14 wx => s14 = .int .i64 (tt : Int) ∧ ∃ (hs' : List Hd) (L' : List Int) (sk' : MSt), hs'.length = k ∧ ManyAt 48 w3 wx gm dv pv gl gh (layF k s l b) (hs'.map Hd.cells) (hs'.mapIdx (Hd.own gl)) sk' ∧ FM k s l b (j + 1) hs' L' sk' ∧ CalmN (30 + (j : Int) + 1) sk')
              case first =>
                go_wp2_with fail
                refine HPu.out.mono ?_
                rintro e w8 ⟨rfl, m8, b8, k8⟩
                have M8 := Lib.hid (HAq.out.step EO.out m8 b8 k8)
                have C8 := Lib.hid HWf.out.2
                clear m8 b8 k8 HPu c0 c1
                obtain ⟨part, top, yy, dn⟩ := y
                simp only at HYk
                cases dn
                · have N8 : Hid (ManyAt 48 w3 w8 gm dv pv gl gh (layF k s l b) ((hs.set tt ⟨false, gp, ⟨part, top, yy, false⟩⟩).map Hd.cells) ((hs.set tt ⟨false, gp, ⟨part, top, yy, false⟩⟩).mapIdx (Hd.own gl)) s') := Lib.hid (by
                    have er : (hs.map Hd.cells)[tt]? = some (Hd.cells ⟨false, gp, x⟩) := by rw [List.getElem?_map, E0.out]; rfl
                    obtain ⟨e1, e2⟩ := setH (gl := gl) (h' := ⟨false, gp, ⟨part, top, yy, false⟩⟩) (r := Hd.cells ⟨false, gp, x⟩) (o := some (gp, 107, (⟨part, top, yy, false⟩ : PMs).cells gl tt)) hlt2 (by have e : yy = x.y := HYk.out; subst e; rfl) rfl
                    rw [← e1, ← e2, set_self _ _ _ er]
                    exact M8.out)
                  have I8 := Lib.hid (HFM.out.1 (by first | rfl | trivial))
                  go_wp2_with fail
                  go_meet
                  exact ⟨rfl, _, _, _, by rw [List.length_set]; exact HN.out, N8.out, I8.out, C8.out⟩
                · have H8 := HAt.of M8.out (rowsH_len hs) (tt := tt) (r := Hd.cells ⟨false, gp, x⟩) (o := some (gp, 107, (⟨part, top, yy, true⟩ : PMs).cells gl tt)) (by rw [List.getElem?_map, E0.out]; rfl) (by rw [set_get _ _ _ _ (by rw [List.length_mapIdx]; exact hlt2), if_pos rfl]; rfl)
                  have f1 : w8.frozen? ⟨gh, tt * 3 + 1, none⟩ = false := H8.frozen 1
                  have k1 : w8.cell? ⟨gh, tt * 3 + 1, none⟩ = some (.pointer (some ⟨gp, 0, none⟩)) := H8.cell (f := 1) (by decide)
                  have HP1 := H8.put (f := 1) (by decide) (.pointer none)
                  have f2 : (w8.setCell ⟨gh, tt * 3 + 1, none⟩ (.pointer none)).frozen? ⟨gh, tt * 3 + 2, none⟩ = false := HP1.frozen 2
                  have k2 : (w8.setCell ⟨gh, tt * 3 + 1, none⟩ (.pointer none)).cell? ⟨gh, tt * 3 + 2, none⟩ = some (.int .i64 x.y) := HP1.cell (f := 2) (by decide)
                  have H9 := Lib.hid ((H8.put (f := 1) (by decide) (.pointer none)).put (f := 2) (by decide) (.int .i64 (-1)))
                  clear H8 HP1
                  go_wp2_with fail
                  refine (newPop_ok _ gl (tt : Int)).mono ?_
                  rintro e wA ⟨gA, rfl, lA, bA, xA⟩
                  have HT := H9.out.take xA (q := (gA, 98, fcells gl tt 0 0 false 0)) lA bA
                  have g0 : wA.frozen? ⟨gh, tt * 3, none⟩ = false := HT.frozen 0
                  have k0 : ∃ v, wA.cell? ⟨gh, tt * 3, none⟩ = some v := ⟨_, HT.cell (f := 0) (by decide)⟩
                  obtain ⟨v0, k0⟩ := k0
                  have HU := HT.put (f := 0) (by decide) (.pointer (some ⟨gA, 0, none⟩))
                  have NA : Hid (ManyAt 48 w3 (wA.setCell ⟨gh, tt * 3 + 0, none⟩ (.pointer (some ⟨gA, 0, none⟩))) gm dv pv gl gh (layF k s l b) ((hs.set tt ⟨true, gA, ⟨0, 0, 0, false⟩⟩).map Hd.cells) ((hs.set tt ⟨true, gA, ⟨0, 0, 0, false⟩⟩).mapIdx (Hd.own gl)) s') := Lib.hid (by
                    have hm := HU.m
                    rw [List.set_set] at hm
                    obtain ⟨e1, e2⟩ := setH (gl := gl) (h' := ⟨true, gA, ⟨0, 0, 0, false⟩⟩) (r := Hd.cells ⟨true, gA, ⟨0, 0, 0, false⟩⟩) (o := some (gA, 98, fcells gl tt 0 0 false 0)) hlt2 rfl rfl
                    rw [← e1, ← e2]
                    exact hm)
                  have I8 := Lib.hid (HFM.out.2 (by first | rfl | trivial) gA)
                  clear HT HU lA bA xA f1 f2 k1 k2 H9
                  go_wp2_with fail
                  go_meet
                  exact ⟨rfl, _, _, _, by rw [List.length_set]; exact HN.out, NA.out, I8.out, C8.out⟩
              case rest =>
                obtain ⟨rfl, hs', L', sk', hlen, ha, hi, hca⟩ := hcut
                generalize wc = wd at *
                have HBd := Lib.hid (B3.out.ext ha.m.lt.1)
                have HLi := hi.list
                have HRl := hi.rng
                have hpl := pigeon s L' hi.nodup hi.rng
                have HOn := Lib.hid (once_ok ha.m HOk.out ha.l HF22.out s HF1.out s30 L' HLi (fun i hi' => HRl _ (by rw [List.getD_eq_getElem?_getD, List.getElem?_eq_getElem hi']; exact List.getElem_mem hi')) (by omega) ha.h (zs := hs'.map fun h => if h.pop = true then (-1 : Int) else h.x.y) (T := k) (by rw [List.length_map]; exact hlen) (by omega) (fun i hi' => rowsH_slot (by omega)) (fun i hi' => hi.slots (by omega)) (fun q hq => by rw [hadC_count (by omega)]; exact hi.cnt q (by omega) (by omega)))
                have HA := Lib.hid ha
                have HM := Lib.hid hi
                have HC := Lib.hid hca
                clear ha hi hca HLi HRl hpl HAq HBq
                have y0 : wd.cell? ⟨w.heap.size, 0, none⟩ = some (.int .i64 k) := HBd.out.cell 0
                have y1 : wd.cell? ⟨w.heap.size, 1, none⟩ = some (.int .i64 s) := HBd.out.cell 1
                have y2 : wd.cell? ⟨w.heap.size, 2, none⟩ = some (.int .i64 l) := HBd.out.cell 2
                have y3 : wd.cell? ⟨w.heap.size, 3, none⟩ = some (.int .i64 b) := HBd.out.cell 3
                go_wp2_with fail
                refine HOn.out.mono ?_
                rintro e we ⟨rfl, xe⟩
                have HAe := Lib.hid (HA.out.ext xe)
                clear xe HA HOn y0 y1 y2 y3
                go_wp2_with fail
                go_roundw
                case rel => exact ⟨j + 1, hs', L', sk', by omega, by go_num, hlen, HAe.out, HM.out, by rw [show (30 : Int) + ((j + 1 : Nat) : Int) = 30 + (j : Int) + 1 by omega]; exact HC.out⟩
                case measure => simp [intOf]; omega
            · -- it takes
              have HFm := HM.out.pop (by omega) (by omega) hU e0 rfl (tt : Int)
              have HPu := Lib.hid (popStep_ok HAq.out.m (HC.out.calm (by omega)) HOk.out hwf bx HAq.out.l HF22.out (Or.inr (Or.inr ⟨tt, _, eo, rfl⟩)) (Or.inl rfl) (HAq.out.a tt _ eo).2.2.2)
              have HWf := Lib.hid (popS_wf (F := layF k s l b) (t := (tt : Int)) hU hwf HC.out)
              have HFM := Lib.hid HFm
              have c0 : wq.cell? ⟨gh, tt * 3, none⟩ = some (.pointer (some ⟨gp, 0, none⟩)) := HH.cell (f := 0) (by decide)
              have EO := Lib.hid eo
              have E0 := Lib.hid e0
              clear HFm HH hU hwf bx er eo e0 HM
              generalize popS (layF k s l b) (tt : Int) x sk = r at *
              obtain ⟨y, s'⟩ := r
              go_wp2_with fail
              refine HPu.out.mono ?_
              rintro e w8 ⟨rfl, m8, b8, k8⟩
              have M8 := Lib.hid (HAq.out.step EO.out m8 b8 k8)
              have C8 := Lib.hid HWf.out.2
              have HTw := Lib.hid HWf.out.1.top
              have b3 : w8.cell? ⟨gp, 3, none⟩ = some (.int .u64 y.top) := b8.cell 3
              have b4 : w8.cell? ⟨gp, 4, none⟩ = some (.bool y.dn) := b8.cell 4
              have HSl := Lib.hid (popSlot_ok w8 gp y.top y.dn HTw.out b3 b4)
              clear m8 b8 k8 HPu c0 b3 b4
              obtain ⟨part, top, yy, dn⟩ := y
              have H8 := HAt.of M8.out (rowsH_len hs) (tt := tt) (r := Hd.cells ⟨true, gp, x⟩) (o := some (gp, 98, (⟨part, top, yy, dn⟩ : PMs).cells gl tt)) (by rw [List.getElem?_map, E0.out]; rfl) (by rw [set_get _ _ _ _ (by rw [List.length_mapIdx]; exact hlt2), if_pos rfl]; rfl)
              have c0 : w8.cell? ⟨gh, tt * 3, none⟩ = some (.pointer (some ⟨gp, 0, none⟩)) := H8.cell (f := 0) (by decide)
              go_upto_if 96 with fail
              go_cut [14] (fun s14 wx => s14 = .int .i64 (tt : Int) ∧ ∃ (hs' : List Hd) (L' : List Int) (sk' : MSt), hs'.length = k ∧ ManyAt 48 w3 wx gm dv pv gl gh (layF k s l b) (hs'.map Hd.cells) (hs'.mapIdx (Hd.own gl)) sk' ∧ FM k s l b (j + 1) hs' L' sk' ∧ CalmN (30 + (j : Int) + 1) sk')
              case first =>
                cases dn
                · have N8 : Hid (ManyAt 48 w3 w8 gm dv pv gl gh (layF k s l b) ((hs.set tt ⟨true, gp, ⟨part, top, yy, false⟩⟩).map Hd.cells) ((hs.set tt ⟨true, gp, ⟨part, top, yy, false⟩⟩).mapIdx (Hd.own gl)) s') := Lib.hid (by
                    have er : (hs.map Hd.cells)[tt]? = some (Hd.cells ⟨true, gp, x⟩) := by rw [List.getElem?_map, E0.out]; rfl
                    obtain ⟨e1, e2⟩ := setH (gl := gl) (h' := ⟨true, gp, ⟨part, top, yy, false⟩⟩) (r := Hd.cells ⟨true, gp, x⟩) (o := some (gp, 98, (⟨part, top, yy, false⟩ : PMs).cells gl tt)) hlt2 rfl rfl
                    rw [← e1, ← e2, set_self _ _ _ er]
                    exact M8.out)
                  have I8 := Lib.hid (HFM.out.1 (by first | rfl | trivial))
                  clear H8
                  go_wp2_with fail
                  go_meet
                  exact ⟨rfl, _, _, _, by rw [List.length_set]; exact HN.out, N8.out, I8.out, C8.out⟩
                · have H8' := Lib.hid H8
                  clear H8
                  rcases HFM.out.2 (by first | rfl | trivial) with ⟨hno, hF⟩ | ⟨a, L', ha, a0, a1, hF⟩
                  · have HNo : Hid (toN top = -1) := Lib.hid hno
                    have HF9 := Lib.hid hF
                    clear hno hF
                    go_wp2_with fail
                    refine (HSl.out.mono (R' := fun e w' => e = .returned (.int .i64 (-1)) ∧ Ext w8 w') (by rintro e w' ⟨rfl, x'⟩; exact ⟨by simp [HNo.out], x'⟩)).mono ?_
                    rintro e w9 ⟨rfl, x9⟩
                    have H9 := H8'.out.ext x9
                    have f2 : w9.frozen? ⟨gh, tt * 3 + 2, none⟩ = false := H9.frozen 2
                    have kk2 : w9.cell? ⟨gh, tt * 3 + 2, none⟩ = some (.int .i64 (-1)) := H9.cell (f := 2) (by decide)
                    have H9' := Lib.hid (H9.put (f := 2) (by decide) (.int .i64 (-1)))
                    clear H9 x9 H8' c0
                    go_wp2_with fail
                    refine (newPop_ok _ gl (tt : Int)).mono ?_
                    rintro e wA ⟨gA, rfl, lA, bA, xA⟩
                    have HT := H9'.out.take xA (q := (gA, 98, fcells gl tt 0 0 false 0)) lA bA
                    have g0 : wA.frozen? ⟨gh, tt * 3, none⟩ = false := HT.frozen 0
                    have k0 : ∃ v, wA.cell? ⟨gh, tt * 3, none⟩ = some v := ⟨_, HT.cell (f := 0) (by decide)⟩
                    obtain ⟨v0, k0⟩ := k0
                    have k2 : wA.cell? ⟨gh, tt * 3 + 2, none⟩ = some (.int .i64 (-1)) := HT.cell (f := 2) (by decide)
                    have HU := HT.put (f := 0) (by decide) (.pointer (some ⟨gA, 0, none⟩))
                    have NA : Hid (ManyAt 48 w3 (wA.setCell ⟨gh, tt * 3 + 0, none⟩ (.pointer (some ⟨gA, 0, none⟩))) gm dv pv gl gh (layF k s l b) ((hs.set tt ⟨true, gA, ⟨0, 0, 0, false⟩⟩).map Hd.cells) ((hs.set tt ⟨true, gA, ⟨0, 0, 0, false⟩⟩).mapIdx (Hd.own gl)) s') := Lib.hid (by
                      have hm := HU.m
                      rw [List.set_set] at hm
                      obtain ⟨e1, e2⟩ := setH (gl := gl) (h' := ⟨true, gA, ⟨0, 0, 0, false⟩⟩) (r := Hd.cells ⟨true, gA, ⟨0, 0, 0, false⟩⟩) (o := some (gA, 98, fcells gl tt 0 0 false 0)) hlt2 rfl rfl
                      rw [← e1, ← e2]
                      exact hm)
                    have I8 := Lib.hid (HF9.out gA)
                    clear HT HU lA bA xA f2 kk2 H9'
                    go_wp2_with fail
                    go_meet
                    exact ⟨rfl, _, _, _, by rw [List.length_set]; exact HN.out, NA.out, I8.out, C8.out⟩
                  · have HNo : Hid (toN top = a) := Lib.hid ha
                    have HF9 := Lib.hid hF
                    obtain ⟨an, rfl⟩ := Int.eq_ofNat_of_zero_le a0
                    have hne : ((an : Int) != -1) = true := by rw [bne_iff_ne]; omega
                    have hne' : ((an : Int) == -1) = false := by rw [beq_eq_false_iff_ne]; omega
                    have hne2 : ¬ (an : Int) = -1 := by omega
                    clear ha hF a0
                    go_wp2_with fail
                    refine (HSl.out.mono (R' := fun e w' => e = .returned (.int .i64 (an : Int)) ∧ Ext w8 w') (by rintro e w' ⟨rfl, x'⟩; exact ⟨by simp [HNo.out], x'⟩)).mono ?_
                    rintro e w9 ⟨rfl, x9⟩
                    have H9 := H8'.out.ext x9
                    have f2 : w9.frozen? ⟨gh, tt * 3 + 2, none⟩ = false := H9.frozen 2
                    have kk2 : w9.cell? ⟨gh, tt * 3 + 2, none⟩ = some (.int .i64 (-1)) := H9.cell (f := 2) (by decide)
                    have H9' := Lib.hid (H9.put (f := 2) (by decide) (.int .i64 (an : Int)))
                    clear H9 x9 H8' c0
                    go_wp2_with fail
                    refine (newPop_ok _ gl (tt : Int)).mono ?_
                    rintro e wA ⟨gA, rfl, lA, bA, xA⟩
                    have HT := H9'.out.ext xA
                    have g0 : wA.frozen? ⟨gh, tt * 3, none⟩ = false := HT.frozen 0
                    have k0 : ∃ v, wA.cell? ⟨gh, tt * 3, none⟩ = some v := ⟨_, HT.cell (f := 0) (by decide)⟩
                    obtain ⟨v0, k0⟩ := k0
                    have k2 : wA.cell? ⟨gh, tt * 3 + 2, none⟩ = some (.int .i64 (an : Int)) := HT.cell (f := 2) (by decide)
                    have HU := Lib.hid ((HT.put (f := 0) (by decide) (.pointer (some ⟨gA, 0, none⟩))).put (f := 0) (by decide) (.pointer none))
                    clear HT lA bA xA f2 kk2 H9'
                    go_wp2_with fail
                    refine (newPush_ok _ gl (tt : Int) (an : Int)).mono ?_
                    rintro e wB ⟨gB, rfl, lB, bB, xB⟩
                    have HV := HU.out.take xB (q := (gB, 107, fcells gl tt 0 0 false an)) lB bB
                    have g1 : wB.frozen? ⟨gh, tt * 3 + 1, none⟩ = false := HV.frozen 1
                    have k1 : wB.cell? ⟨gh, tt * 3 + 1, none⟩ = some (.pointer none) := HV.cell (f := 1) (by decide)
                    have HW := HV.put (f := 1) (by decide) (.pointer (some ⟨gB, 0, none⟩))
                    have NA : Hid (ManyAt 48 w3 (wB.setCell ⟨gh, tt * 3 + 1, none⟩ (.pointer (some ⟨gB, 0, none⟩))) gm dv pv gl gh (layF k s l b) ((hs.set tt ⟨false, gB, ⟨0, 0, an, false⟩⟩).map Hd.cells) ((hs.set tt ⟨false, gB, ⟨0, 0, an, false⟩⟩).mapIdx (Hd.own gl)) s') := Lib.hid (by
                      have hm := HW.m
                      simp only [List.set_set] at hm
                      obtain ⟨e1, e2⟩ := setH (gl := gl) (h' := ⟨false, gB, ⟨0, 0, an, false⟩⟩) (r := Hd.cells ⟨false, gB, ⟨0, 0, an, false⟩⟩) (o := some (gB, 107, fcells gl tt 0 0 false an)) hlt2 rfl rfl
                      rw [← e1, ← e2]
                      exact hm)
                    have I8 := Lib.hid (HF9.out gB)
                    clear HV HW lB bB xB g0 k2 HU
                    go_wp2_with fail
                    go_meet
                    exact ⟨rfl, _, _, _, by rw [List.length_set]; exact HN.out, NA.out, I8.out, C8.out⟩
              case rest =>
                obtain ⟨rfl, hs', L', sk', hlen, ha, hi, hca⟩ := hcut
                generalize wc = wd at *
                have HBd := Lib.hid (B3.out.ext ha.m.lt.1)
                have HLi := hi.list
                have HRl := hi.rng
                have hpl := pigeon s L' hi.nodup hi.rng
                have HOn := Lib.hid (once_ok ha.m HOk.out ha.l HF22.out s HF1.out s30 L' HLi (fun i hi' => HRl _ (by rw [List.getD_eq_getElem?_getD, List.getElem?_eq_getElem hi']; exact List.getElem_mem hi')) (by omega) ha.h (zs := hs'.map fun h => if h.pop = true then (-1 : Int) else h.x.y) (T := k) (by rw [List.length_map]; exact hlen) (by omega) (fun i hi' => rowsH_slot (by omega)) (fun i hi' => hi.slots (by omega)) (fun q hq => by rw [hadC_count (by omega)]; exact hi.cnt q (by omega) (by omega)))
                have HA := Lib.hid ha
                have HM := Lib.hid hi
                have HC := Lib.hid hca
                clear ha hi hca HLi HRl hpl HAq HBq
                have y0 : wd.cell? ⟨w.heap.size, 0, none⟩ = some (.int .i64 k) := HBd.out.cell 0
                have y1 : wd.cell? ⟨w.heap.size, 1, none⟩ = some (.int .i64 s) := HBd.out.cell 1
                have y2 : wd.cell? ⟨w.heap.size, 2, none⟩ = some (.int .i64 l) := HBd.out.cell 2
                have y3 : wd.cell? ⟨w.heap.size, 3, none⟩ = some (.int .i64 b) := HBd.out.cell 3
                go_wp2_with fail
                refine HOn.out.mono ?_
                rintro e we ⟨rfl, xe⟩
                have HAe := Lib.hid (HA.out.ext xe)
                clear xe HA HOn y0 y1 y2 y3
                go_wp2_with fail
                go_roundw
                case rel => exact ⟨j + 1, hs', L', sk', by omega, by go_num, hlen, HAe.out, HM.out, by rw [show (30 : Int) + ((j + 1 : Nat) : Int) = 30 + (j : Int) + 1 by omega]; exact HC.out⟩
                case measure => simp [intOf]; omega
          · have v2 : decide (j < n) = false := by simp; omega
            go_wp2_with fail
            refine (HAw.out _).mono ?_
            rintro e wz ⟨rfl, xz⟩
            have XZ := Lib.hid (XK.out.trans xz)
            clear xz
            go_wp2_with fail
            go_ret
            exact ⟨rfl, XZ.out⟩

set_option maxRecDepth 100000 in
set_option maxHeartbeats 4000000 in
theorem freeMany_no (w : World) (A : Option Addr) (n c : Nat) (t s l b : Int) (hg : ¬ GrOk t s l b) :
    Calls Try.prog 4 #[.agg #[.int .i64 t, .int .i64 s, .int .i64 l, .int .i64 b], .slice A n c] w fun e w' => e = .returned (.bool true) ∧ Ext w w' := by
  have X0 := Lib.hid ((Ext.refl w).alloc (.cells #[.int .i64 t, .int .i64 s, .int .i64 l, .int .i64 b] 23))
  have HY := Lib.hid (fun W => few9_no t s l b W hg)
  clear hg
  go_enter Try.func4, Try.ntmps4
  go_wp2_with fail
  refine (HY.out _).mono ?_
  rintro e w1 ⟨rfl, x1⟩
  have X1 := Lib.hid (X0.out.trans x1)
  clear x1
  go_wp2_with fail
  refine (awake9_ok _).mono ?_
  rintro e w2 ⟨rfl, x2⟩
  have X2 := Lib.hid (X1.out.trans x2)
  clear x2
  go_wp2_with fail
  go_ret
  exact ⟨rfl, X2.out⟩
theorem freeMany_walk (w : World) (t s l b : Int) (A : Option Addr) (n c : Nat) (zs : List Int) (hl : zs.length = n) (hn : n ≤ 9223372036854775807) (hA : Ints w .u8 A zs) (hz : Lim zs 256) :
    Calls Try.prog 4 #[.agg #[.int .i64 t, .int .i64 s, .int .i64 l, .int .i64 b], .slice A n c] w fun e w' => e = .returned (.bool true) ∧ Ext w w' := by
  by_cases hg : GrOk t s l b
  · obtain ⟨⟨q0, q1⟩, ⟨q2, q3⟩, ⟨q4, q5⟩, q6, q7⟩ := id hg.1
    obtain ⟨t', rfl⟩ := Int.eq_ofNat_of_zero_le (show 0 ≤ t by omega)
    obtain ⟨s', rfl⟩ := Int.eq_ofNat_of_zero_le (show 0 ≤ s by omega)
    obtain ⟨l', rfl⟩ := Int.eq_ofNat_of_zero_le (show 0 ≤ l by omega)
    obtain ⟨b', rfl⟩ := Int.eq_ofNat_of_zero_le (show 0 ≤ b by omega)
    exact freeMany_yes w A n c t' s' l' b' zs hl hn hA hz hg
  · exact freeMany_no w A n c t s l b hg

namespace freeMany
set_option maxRecDepth 100000 in
theorem lifted (os : Os) (started : os.Started) (H : Type) (enc : TypeId × Value → H) :
    ReturnsInHanded {} Try.checked os 4 .any (Rows.freeManySpec.pre6 enc Try.prog Try.f4 Rows.freeManyRow.domain false) (Rows.freeManySpec.post enc Try.prog Try.f4 false true false false) := by
  refine returnsInHanded_of_change (C := Try.checked) own started (by kernel_rfl) Try.func4
    (ChangeSpec.witness6 (enc := enc) (C := Try.checked) false ⟨#[], #[.agg #[.int .i64 0, .int .i64 0, .int .i64 0, .int .i64 0], .slice none 0 0], []⟩ 8 (by kernel_rfl) (by kernel_rfl) (by kernel_rfl) (by kernel_rfl)) ?_
  intro W base args ds gs before hval0 hW hcnd _
  have hval : ∀ (j : Nat) t v, Try.f4.params[j]? = some t → args[j]? = some v → Value.okWide Try.prog W .any base t v := hval0
  have hW' := hW
  obtain ⟨p, q, hA0, hV, rfl, hfz, hnd⟩ := hW
  have hA : DataW.TrodAll enc Try.prog W 0 (fun _ => true) true Try.f4.params.toList args.toList ds p := hA0
  have hlt : ∀ x ∈ p ++ q, x.block < W.heap.size := fun x hx => hW'.lt x hx
  rw [Try.params4] at hA hval
  have hB := hA
  obtain ⟨v0, vs0, d0, ds0, p0, q0, hargs, rfl, rfl, h0, r0⟩ := trodAll_cons hB
  obtain ⟨v1, vs1, d1, ds1, p1, q1, rfl, rfl, rfl, h1, r1⟩ := trodAll_cons r0
  obtain ⟨rfl, rfl, rfl⟩ := trodAll_nil r1
  obtain rfl : args = #[v0, v1] := by cases args; simp_all
  obtain ⟨rfl, rfl⟩ := trodVars_none hV
  obtain ⟨x0t, x0s, x0l, x0b, rfl, ok0⟩ := view_cfg Try.underlying23 (by kernel_rfl) (by kernel_rfl) Try.underlying3 Try.underlying3 Try.underlying3 Try.underlying3 (hval 0 23 v0 rfl rfl) h0
  obtain ⟨A1, c1, z1, rfl, lc1, mc1, I1, w1⟩ := view_ints Try.underlying45 Try.underlying5 (by kernel_rfl) (hval 1 45 v1 rfl rfl) h1
  clear hA0 hval0
  refine (freeMany_walk W x0t x0s x0l x0b A1 _ c1 z1 rfl (Nat.le_trans lc1 mc1) I1 (lim_u8 w1)).mono fun e W' ⟨he, hx⟩ => ?_
  subst he
  exact ⟨_, rfl, post_ext (pv := []) hW' (fun _ _ _ => (trodAll_cons_mk (shut_bool Try.underlying4 _) trodAll_mk0)) (fun sp hsp => trodAll_stays laid hx _ _ _ _ (readable_of (by kernel_rfl)) hA (fun x hx => hlt x (by first | (simp at hx ⊢; exact hx) | simp at hx)) (fun x hx => hsp x (by first | (simp at hx ⊢; exact hx) | simp at hx))) (fun _ _ => rfl) rfl hx (ok_one (by kernel_rfl) rfl (okWide_bool_mk Try.underlying4 _))⟩

theorem over : Rows.freeManyRow.holds Try.pinned (OpenSpec.ofChange Rows.freeManySpec) :=
  OpenClaim.holds_of_wide 4 Try.f4 rfl rfl rfl rfl rfl rfl rfl ⟨rfl, rfl, rfl, rfl, rfl⟩ rfl rfl rfl rfl rfl (by kernel_rfl) Try.func4 (by kernel_rfl)
    (of_decide_eq_true (by kernel_rfl)) (by unfold Func.isWrapper; first | (rw [if_pos (by decide +kernel)]; kernel_rfl) | (rw [if_neg (by decide +kernel)]; exact ⟨rfl, rfl⟩))
    (fun os started H enc _ => lifted os started H enc)
end freeMany

theorem freeMany_holds : Rows.FreeManySaid := freeMany.over
#print axioms freeMany_holds
end Go.Proofs.Ytfbobdkfibhcnaa
