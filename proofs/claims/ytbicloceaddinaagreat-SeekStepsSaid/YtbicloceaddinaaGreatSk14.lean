/- limekilnlaw14.Row of a list whose links are clean. Conditions: those that each theorem names. -/
import Derived.Test.YtbicloceaddinaaGreatSk13
import Derived.Test.YtbicloceaddinaaGreatKFreeB
import Derived.Test.YtbicloceaddinaaGreatKFM
import Derived.Deep.DeepCutAuto
import Derived.Laws.ResultCell
namespace Go.Proofs.YtbicloceaddinaaGreat
open Go.ChangeShapes Go.WideShapes Go.ChangeAt Go.RowKit
set_option linter.unusedVariables false
/-- append(row, Put{..}) in a region that draws, whatever the world. -/
theorem step_pushPut14 {P : Program} {ops : Array Oper} {o : Oper} {a : Act} {K : Act → World → Prop} {Q : Exit → Act → World → Prop} {E : Prop} (hgd : o.guard = none) (s x : Operand) (t : TypeId)
    (ho : o.op = .call { callee := .builtin .append, args := #[s, x], argTypes := #[t, t] })
    (e : TypeId) (hinfo : (P.info? e).map (fun i => (i.zero, i.size, i.bytes)) = some (some (.agg #[.int .i64 0, .int .u64 0]), 2, 16)) (ht : P.underlying t = some (.slice e))
    (w0 W : World) (v : Value) (n : Nat) (us : List Value) (r0 r1 : Int) (hs : a.eval s = v) (hrow : W.ownsRow w0.heap.size e 2 v n us) (ext : Ext w0 W)
    (hx : a.eval x = .slice (some ⟨W.heap.size, 0, none⟩) 1 1) (hlen : n < 1000000)
    (h : ∀ g cap w', w'.ownsRow w0.heap.size e 2 (.slice (some ⟨g, 0, none⟩) (n + 1) cap) (n + 1) (us ++ [.int .i64 r0, .int .u64 r1]) → Ext w0 w' → Fr (fun b => v.ownBlock = some b) W w' → (v.ownBlock = some g ∨ W.heap.size ≤ g) → K (a.put o.dst (.slice (some ⟨g, 0, none⟩) (n + 1) cap)) w') :
    if Region.wanted o (yielded ops a.tmps) = true then Oper.wp P o a (W.alloc (.cells #[.int .i64 r0, .int .u64 r1] e)) K Q else E := by
  obtain ⟨i, hi, hz1, hz2, hz3⟩ := info_parts hinfo
  refine step_append_lies _ hgd s x t ho w0.heap.size e i (.agg #[.int .i64 0, .int .u64 0]) 2 16 ht hi hz1 hz2 hz3 rfl (by decide) v n us hs (World.ownsRow.alloc hrow _) ⟨W.heap.size, 0, none⟩ 1 1 [.int .i64 r0, .int .u64 r1] hx rfl ?_ ?_ (by omega) ?_ ?_ ?_ _ rfl ?_
  · intro j u' hj
    have hb := Blk.new W e [.int .i64 r0, .int .u64 r1]
    rw [at0]
    show (W.alloc (.cells #[.int .i64 r0, .int .u64 r1] e)).cell? ⟨W.heap.size, j, none⟩ = _
    rw [hb.cell j]
    exact hj
  · intro u' hu'
    simp at hu'
    rcases hu' with rfl | rfl <;> rfl
  · unfold maxLen; omega
  · omega
  · have := ext.size; simp; omega
  · intro g cap w' hown hg hat _
    have hlt := World.ownsRow.lt hrow
    refine h g cap w' hown ?_ ?_ ?_
    · exact Ext.of ((Below.alloc ext.below ext.size _).grown hg (by have := ext.size; simp; omega) (fun q hq => (hlt q hq).1))
    · have hsz := hg.size
      simp at hsz
      refine ⟨hg.os, hg.tape, hg.output, by omega, fun b hb hne => (hg.block b (by simp; omega) (fun e => hne e.symm)).trans (Below.heap_alloc _ _ _ hb)⟩
    · rcases hat with h | h
      · exact Or.inl h
      · exact Or.inr (by rw [h]; simp)
theorem wpList_pushPut14 {P : Program} {ops : Array Oper} {rest : List Oper} {o : Oper} {a : Act} {Q : Exit → Act → World → Prop} (hgd : o.guard = none) (s x : Operand) (t : TypeId)
    (ho : o.op = .call { callee := .builtin .append, args := #[s, x], argTypes := #[t, t] })
    (e : TypeId) (hinfo : (P.info? e).map (fun i => (i.zero, i.size, i.bytes)) = some (some (.agg #[.int .i64 0, .int .u64 0]), 2, 16)) (ht : P.underlying t = some (.slice e))
    (w0 W : World) (v : Value) (n : Nat) (us : List Value) (r0 r1 : Int) (hs : a.eval s = v) (hrow : W.ownsRow w0.heap.size e 2 v n us) (ext : Ext w0 W)
    (hx : a.eval x = .slice (some ⟨W.heap.size, 0, none⟩) 1 1) (hlen : n < 1000000)
    (h : ∀ v' w', w'.ownsRow w0.heap.size e 2 v' (n + 1) (us ++ [.int .i64 r0, .int .u64 r1]) → Ext w0 w' → (∀ g, g < W.heap.size → v.ownBlock ≠ some g → w'.heap[g]? = W.heap[g]? ∧ v'.ownBlock ≠ some g) → W.heap.size ≤ w'.heap.size → wpList P ops Q rest (a.put o.dst v') w') :
    wpList P ops Q (o :: rest) a (W.alloc (.cells #[.int .i64 r0, .int .u64 r1] e)) := by
  obtain ⟨i, hi, hz1, hz2, hz3⟩ := info_parts hinfo
  refine wpList_append_own_at _ hgd s x t ho w0.heap.size e i (.agg #[.int .i64 0, .int .u64 0]) 2 16 ht hi hz1 hz2 hz3 rfl (by decide) v n us hs (World.ownsRow.alloc hrow _) ⟨W.heap.size, 0, none⟩ 1 1 [.int .i64 r0, .int .u64 r1] hx rfl ?_ ?_ ?_ ?_ ?_ ?_
  · intro j u' hj
    have hb := Blk.new W e [.int .i64 r0, .int .u64 r1]
    rw [at0]
    show (W.alloc (.cells #[.int .i64 r0, .int .u64 r1] e)).cell? ⟨W.heap.size, j, none⟩ = _
    rw [hb.cell j]
    exact hj
  · intro u' hu'
    simp at hu'
    rcases hu' with rfl | rfl <;> rfl
  · unfold maxLen; omega
  · omega
  · have := ext.size; simp; omega
  · intro v' w' hown hg _ hat
    have hlt := World.ownsRow.lt hrow
    have hsz := hg.size
    simp at hsz
    refine h v' w' hown (Ext.of ((Below.alloc ext.below ext.size _).grown hg (by have := ext.size; simp; omega) (fun q hq => (hlt q hq).1))) (fun g hgl hne => ⟨(hg.block g (by simp; omega) (fun e => hne e.symm)).trans (Below.heap_alloc _ _ _ hgl), ?_⟩) (by omega)
    rcases hat with e | e
    · rw [e]; exact hne
    · rw [e]
      simp
      omega
open Go.Sort in

theorem results_row14 {P : Program} {fn : Func} {p : Tmp} {ty : TypeId} (h : fn.results = #[.cell p ty]) (tmps : Array Value) (w : World) (g : Nat) (t : TypeId) (cs : Array Value) (fr : Nat × Nat) (d : TypeDesc)
    (hp : tmps.getD p undef = .pointer (some ⟨g, 0, none⟩)) (hg : w.heap[g]? = some (.cells cs t fr)) (hu : P.underlying ty = some d) (hd : (match d with | .struct _ | .array _ _ => true | _ => false) = true) (hi : (P.info? ty).map (·.size) = some cs.size) :
    (results fn tmps).run P w = .ok (.agg cs) w := by
  have e : (results fn tmps).run P w = ((asAddr (tmps.getD p undef)).run P w).andThen fun a w₁ => (loadVar ty a).run P w₁ := by
    simp only [results, h]
    simp [Sem.run_bind, Result.andThen]
  rw [e, hp]
  simp [asAddr, run_loadVar_row w g t ty cs fr d hg hu hd hi, Result.andThen]
def lkV (a b : Int) : Int := (a + 1) % 4294967296 + 4294967296 * ((b + 1) % 128)
def ndK (nl : List (Int × Int)) (j : Nat) : Int := (nl.getD j (0, 0)).1
def ndB (nl : List (Int × Int)) (j : Nat) : Int := (nl.getD j (0, 0)).2
/-- The puts of a round. -/
def rowR (F : Nat → Int) (hd : Int) (nl : List (Int × Int)) (k : Nat) : List Put :=
  match k with
  | 0 => [(hd, lkV (if 0 = nl.length then -1 else 0) (-1))]
  | j + 1 => [(keyN F (j : Int), ndK nl j), (nxtN F (j : Int), lkV (if j + 1 = nl.length then -1 else (j : Int) + 1) (ndB nl j))]
def rowQ (F : Nat → Int) (hd : Int) (nl : List (Int × Int)) : Nat → List Put
  | 0 => []
  | k + 1 => rowQ F hd nl k ++ rowR F hd nl k
theorem rowQ_len (F : Nat → Int) (hd : Int) (nl : List (Int × Int)) : ∀ k, (rowQ F hd nl k).length ≤ 2 * k
  | 0 => by simp [rowQ]
  | k + 1 => by
    have h := rowQ_len F hd nl k
    have h2 : (rowR F hd nl k).length ≤ 2 := by cases k <;> simp [rowR]
    simp only [rowQ, List.length_append]
    omega
/-- The nodes of a list, where they lie. -/
def NodesAt (w : World) (ad : Addr) (nl : List (Int × Int)) : Prop := ad.block < w.heap.size ∧ ∀ j, j < nl.length → w.cell? (ad.add (j * 2)) = some (.int .u32 (ndK nl j)) ∧ w.cell? ⟨(ad.add (j * 2)).block, (ad.add (j * 2)).off + 1, none⟩ = some (.int .i64 (ndB nl j))

set_option maxRecDepth 100000 in
set_option maxHeartbeats 4000000 in
theorem row14_ok (w : World) (t s l b : Nat) (cg : CfgN t s l b) (hd : Int) (ad : Addr) (nl : List (Int × Int)) (n c : Nat) (hn : nl.length = n) (hn2 : n ≤ 40) (hA : NodesAt w ad nl) (hB : ∀ j, I64 (ndB nl j)) (hK : ∀ j, 0 ≤ ndK nl j ∧ ndK nl j < 4294967296) :
    Calls Tryz.prog 40 #[.agg #[.int .i64 t, .int .i64 s, .int .i64 l, .int .i64 b], .int .i64 hd, .slice (some ad) n c, .slice none 0 0] w fun e w' => ∃ v, e = .returned (.agg #[.int .i64 t, .int .i64 s, .int .i64 l, .int .i64 b, v]) ∧ PutRow w' w.heap.size v (rowQ (layF t s l b) hd nl (n + 1)) ∧ Ext w w' := by
  have X0 := Lib.hid (((Ext.refl w).alloc (.cells #[.int .i64 t, .int .i64 s, .int .i64 l, .int .i64 b] 23)).alloc (.cells #[.int .i64 0, .int .i64 0, .int .i64 0, .int .i64 0, .slice none 0 0] 26))
  have B0 := Lib.hid ((Blk.new w 23 [.int .i64 t, .int .i64 s, .int .i64 l, .int .i64 b]).ext ((Ext.refl (w.alloc (.cells #[.int .i64 t, .int .i64 s, .int .i64 l, .int .i64 b] 23))).alloc (.cells #[.int .i64 0, .int .i64 0, .int .i64 0, .int .i64 0, .slice none 0 0] 26)))
  have R0 : Hid (Blk ((w.alloc (.cells #[.int .i64 t, .int .i64 s, .int .i64 l, .int .i64 b] 23)).alloc (.cells #[.int .i64 0, .int .i64 0, .int .i64 0, .int .i64 0, .slice none 0 0] 26)) (w.heap.size + 1) 26 [.int .i64 0, .int .i64 0, .int .i64 0, .int .i64 0, .slice none 0 0]) := Lib.hid (by have := Blk.new (w.alloc (.cells #[.int .i64 t, .int .i64 s, .int .i64 l, .int .i64 b] 23)) 26 [.int .i64 0, .int .i64 0, .int .i64 0, .int .i64 0, .slice none 0 0]; simp only [World.size_alloc] at this; exact this)
  have HNx := Lib.hid (fun (j : Int) W => rNext_ok cg j W)
  have HAt := Lib.hid (fun (j : Int) W => rKeyAt_ok cg j W)
  have HNd : Hid (∀ W, Ext w W → ∀ j, j < n → W.cell? (ad.add (j * 2)) = some (.int .u32 (ndK nl j)) ∧ W.cell? ⟨(ad.add (j * 2)).block, (ad.add (j * 2)).off + 1, none⟩ = some (.int .i64 (ndB nl j))) := Lib.hid (fun W x j hj => by
    have hb : (ad.add (j * 2)).block < w.heap.size := by rw [add_block]; exact hA.1
    obtain ⟨h1, h2⟩ := hA.2 j (by omega)
    exact ⟨(x.cell hb).trans h1, (x.cell (p := ⟨(ad.add (j * 2)).block, (ad.add (j * 2)).off + 1, none⟩) hb).trans h2⟩)
  have HB := Lib.hid hB
  have HK := Lib.hid hK
  have HAb : Hid (ad.block < w.heap.size) := Lib.hid hA.1
  clear hA hB hK cg
  obtain ⟨F, hF⟩ : ∃ F, layF t s l b = F := ⟨_, rfl⟩
  rw [hF] at HNx HAt ⊢
  clear hF
  go_enter Tryz.func40, Tryz.ntmps40
  go_upto_region 1 with fail
  generalize (w.alloc (.cells #[.int .i64 t, .int .i64 s, .int .i64 l, .int .i64 b] 23)).alloc (.cells #[.int .i64 0, .int .i64 0, .int .i64 0, .int .i64 0, .slice none 0 0] 26) = w1 at *
  have y0 : w1.cell? ⟨w.heap.size, 0, none⟩ = some (.int .i64 t) := B0.out.cell 0
  have y1 : w1.cell? ⟨w.heap.size, 1, none⟩ = some (.int .i64 s) := B0.out.cell 1
  have y2 : w1.cell? ⟨w.heap.size, 2, none⟩ = some (.int .i64 l) := B0.out.cell 2
  have y3 : w1.cell? ⟨w.heap.size, 3, none⟩ = some (.int .i64 b) := B0.out.cell 3
  have hs1 : w.heap.size + 1 < w1.heap.size := R0.out.lt
  go_upto_region 2 with fail
  have x2 := (Ext.refl w1).alloc (.cells #[.int .i64 t, .int .i64 s, .int .i64 l, .int .i64 b, .slice none 0 0] 26)
  have B2 := Lib.hid (B0.out.ext x2)
  have R2 := Lib.hid (R0.out.ext x2)
  have X2 := Lib.hid (X0.out.trans x2)
  have G2 := Lib.hid (Blk.new w1 26 [.int .i64 t, .int .i64 s, .int .i64 l, .int .i64 b, .slice none 0 0])
  obtain ⟨gg, hgg⟩ : ∃ gg, w1.heap.size = gg := ⟨_, rfl⟩
  rw [hgg] at G2 hs1 ⊢
  clear hgg x2 B0 R0 X0 y0 y1 y2 y3
  generalize w1.alloc (.cells #[.int .i64 t, .int .i64 s, .int .i64 l, .int .i64 b, .slice none 0 0] 26) = w2 at *
  go_wp2_with fail
  go_loopw [10] (fun i wr => ∃ (k : Nat) (v : Value), k ≤ n + 1 ∧ i = .int .i64 k ∧ PutRow wr w.heap.size v (rowQ F hd nl k) ∧ Ext w wr ∧ Blk wr w.heap.size 23 [.int .i64 t, .int .i64 s, .int .i64 l, .int .i64 b] ∧ Blk wr (w.heap.size + 1) 26 [.int .i64 0, .int .i64 0, .int .i64 0, .int .i64 0, .slice none 0 0] ∧ Blk wr gg 26 [.int .i64 t, .int .i64 s, .int .i64 l, .int .i64 b, v] ∧ (v.ownBlock ≠ some w.heap.size ∧ v.ownBlock ≠ some (w.heap.size + 1) ∧ v.ownBlock ≠ some gg)) (fun i _ => n + 1 - (intOf i).toNat)
  case atStart => exact ⟨0, _, Nat.zero_le _, rfl, PutRow.nil _ _, X2.out, B2.out, R2.out, G2.out, by simp [Value.ownBlock], by simp [Value.ownBlock], by simp [Value.ownBlock]⟩
  case round =>
    obtain ⟨k, v, hk, rfl, row, xk, k0, k1, k2, o0, o1, o2⟩ := hrel
    have RW := Lib.hid row
    have XK := Lib.hid xk
    have K0 := Lib.hid k0
    have K1 := Lib.hid k1
    have K2 := Lib.hid k2
    have OO := Lib.hid (And.intro o0 (And.intro o1 o2))
    have HQl := Lib.hid (rowQ_len F hd nl k)
    have hgk : gg < wr.heap.size := k2.lt
    clear row xk k0 k1 k2 o0 o1 o2 B2 R2 G2 X2
    by_cases hlt : k ≤ n
    · have v1 : decide (k ≤ n) = true := by simp; omega
      have v2 : decide ((k : Int) ≤ (n : Int)) = true := by simp; omega
      obtain ⟨tz, htz⟩ : ∃ tz : Int, (if k = n then -1 else (k : Int)) = tz := ⟨_, rfl⟩
      have HTz := Lib.hid htz
      have ht1 : -1 ≤ tz ∧ tz < 100 := by rw [← htz]; split <;> omega
      clear htz
      go_upto_if 28 with fail
      go_cut [11] (fun s11 wx => s11 = .int .i64 tz ∧ wx = wr)
      case first =>
        by_cases hkn : k = n
        · have e1 : (-1 : Int) = tz := by rw [← HTz.out, if_pos hkn]
          have t1 : ((k : Int) == (n : Int)) = true := by rw [beq_iff_eq]; omega
          have t2 : decide ((k : Int) = (n : Int)) = true := by simp; omega
          have t3 : (k == n) = true := by rw [beq_iff_eq]; omega
          have t4 : decide (k = n) = true := by simp; omega
          have HE := Lib.hid e1
          clear hkn e1
          go_wp2_with fail
          go_meet
          exact ⟨by rw [HE.out], rfl⟩
        · have e1 : (k : Int) = tz := by rw [← HTz.out, if_neg hkn]
          have t1 : ((k : Int) == (n : Int)) = false := by rw [beq_eq_false_iff_ne]; omega
          have t2 : decide ((k : Int) = (n : Int)) = false := by simp; omega
          have t3 : (k == n) = false := by rw [beq_eq_false_iff_ne]; omega
          have t4 : decide (k = n) = false := by simp; omega
          have HE := Lib.hid e1
          clear hkn e1
          go_wp2_with fail
          go_meet
          exact ⟨by rw [HE.out], rfl⟩
      case rest =>
      obtain ⟨rfl, rfl⟩ := hcut
      generalize wc = wr at *
      obtain ⟨b0, hb0⟩ : ∃ b0, decide (0 < k) = b0 := ⟨_, rfl⟩
      have hb1 : decide ((0 : Int) < (k : Int)) = b0 := by rw [← hb0]; simp
      have HB0 := Lib.hid hb0
      go_upto_if 30 with fail
      clear hb0 hb1
      go_cut [12, 13] (fun s12 s13 wx => ∃ (v' : Value) (bz az : Int) (ms : List Put), s12 = .int .i64 bz ∧ s13 = .int .i64 az ∧ PutRow wx w.heap.size v' (rowQ F hd nl k ++ ms) ∧ ms.length ≤ 1 ∧ rowQ F hd nl (k + 1) = rowQ F hd nl k ++ ms ++ [(az, lkV tz bz)] ∧ I64 bz ∧ Ext w wx ∧ Blk wx w.heap.size 23 [.int .i64 t, .int .i64 s, .int .i64 l, .int .i64 b] ∧ Blk wx (w.heap.size + 1) 26 [.int .i64 0, .int .i64 0, .int .i64 0, .int .i64 0, .slice none 0 0] ∧ Blk wx gg 26 [.int .i64 t, .int .i64 s, .int .i64 l, .int .i64 b, v'] ∧ (v'.ownBlock ≠ some w.heap.size ∧ v'.ownBlock ≠ some (w.heap.size + 1) ∧ v'.ownBlock ≠ some gg))
      case first =>
        cases b0
        · have h0 : k = 0 := by have := HB0.out; simp at this; omega
          have HQ2 : Hid (rowQ F hd nl (k + 1) = rowQ F hd nl k ++ [] ++ [(hd, lkV tz (-1))]) := Lib.hid (by
            have e2 := HTz.out
            subst h0
            simp only [rowQ, rowR, List.append_nil]
            rw [← e2, hn]
            rfl)
          clear h0
          go_wp2_with fail
          go_meet
          exact ⟨v, -1, hd, [], rfl, rfl, by rw [List.append_nil]; exact RW.out, by simp, HQ2.out, ⟨by decide, by decide⟩, XK.out, K0.out, K1.out, K2.out, OO.out⟩
        · have h0 : 0 < k := by have := HB0.out; simpa using this
          obtain ⟨j, hj⟩ : ∃ j, k = j + 1 := ⟨k - 1, by omega⟩
          have wj : IntKind.i64.wrap ((k : Int) - 1) = (k : Int) - 1 := i64w _ (by omega) (by omega)
          have hjn : j < n := by omega
          have hjz : (j : Int) = (k : Int) - 1 := by omega
          have hjk : j = k - 1 := by omega
          have HQ2 : Hid (rowQ F hd nl (k + 1) = rowQ F hd nl k ++ [(keyN F (j : Int), ndK nl j)] ++ [(nxtN F (j : Int), lkV tz (ndB nl j))]) := Lib.hid (by
            have e2 := HTz.out
            subst hj
            show rowQ F hd nl (j + 1) ++ rowR F hd nl (j + 1) = _
            simp only [rowR, List.append_assoc, List.cons_append, List.nil_append]
            rw [← e2, hn]
            split
            · rfl
            · first | rfl | simp)
          rw [hjz] at HQ2
          have i0 : (0 : Int) ≤ (k : Int) - 1 := by omega
          have i8 : (k : Int) - 1 < (n : Int) := by omega
          have i10 : (1 : Int) ≤ (k : Int) := by omega
          have i11 : 1 ≤ k := by omega
          have i9 : ((k : Int) - 1).toNat = k - 1 := by omega
          have i1 : decide ((0 : Int) ≤ (k : Int) - 1) = true := by simp; omega
          have i2 : decide ((k : Int) - 1 < (n : Int)) = true := by simp; omega
          have i3 : decide (k - 1 < n) = true := by simp; omega
          obtain ⟨q0, q1⟩ := HNd.out wr XK.out j hjn
          rw [hjk] at q0 q1
          have HBj := Lib.hid (HB.out j)
          have HKj := Lib.hid (HK.out j)
          have wz := HKj.out
          have wz1 : IntKind.u64.wrap (ndK nl j) = ndK nl j := u64w _ (by omega) (by omega)
          have HNx1 := Lib.hid (HNx.out ((k : Int) - 1))
          have HAt1 := Lib.hid (HAt.out ((k : Int) - 1))
          have HNd1 : Hid (∀ W, Ext wr W → W.cell? ⟨gg, 4, none⟩ = some v ∧ (W.cell? ⟨w.heap.size, 0, none⟩ = some (.int .i64 t) ∧ W.cell? ⟨w.heap.size, 1, none⟩ = some (.int .i64 s) ∧ W.cell? ⟨w.heap.size, 2, none⟩ = some (.int .i64 l) ∧ W.cell? ⟨w.heap.size, 3, none⟩ = some (.int .i64 b)) ∧ W.cell? (ad.add ((k - 1) * 2)) = some (.int .u32 (ndK nl (k - 1)))) := Lib.hid (fun W x => ⟨(K2.out.ext x).cell 4, ⟨(K0.out.ext x).cell 0, (K0.out.ext x).cell 1, (K0.out.ext x).cell 2, (K0.out.ext x).cell 3⟩, by rw [← hjk]; exact (HNd.out W (XK.out.trans x) j hjn).1⟩)
          rw [hjk] at wz1 wz HBj HKj HQ2
          generalize ndB nl (k - 1) = bz at *
          generalize ndK nl (k - 1) = kz at *
          generalize nxtN F ((k : Int) - 1) = az at *
          generalize keyN F ((k : Int) - 1) = ka at *
          have hpb : (ad.add ((k - 1) * 2)).block < wr.heap.size := by rw [add_block]; have := XK.out.size; have := HAb.out; omega
          obtain ⟨c4, ⟨y0, y1, y2, y3⟩, c5⟩ := HNd1.out wr (Ext.refl _)
          clear hj h0 hjk hjz HNd HB HK HNx HAt HTz hlt
          go_wp2_with fail
          refine (HNx1.out _).mono ?_
          rintro e w5 ⟨rfl, x5⟩
          have xt := Lib.hid (x5.drew)
          have x5h := Lib.hid x5
          clear c4 y0 y1 y2 y3 c5 q0 q1
          obtain ⟨c4, ⟨y0, y1, y2, y3⟩, c5⟩ := HNd1.out w5 x5
          have hs5 := x5.size
          clear x5
          go_wp2_with fail
          go_region_law (first
            | (refine step_pushPut14 (by rfl) _ _ 24 (by rfl) 114 put_info Tryz.underlying24 w _ _ _ _ ka kz (by rfl) (RW.out.ext xt.out) (XK.out.trans xt.out) (by rfl) (by have := HQl.out; omega) ?_; intro g' cap' w' hrow' hext' hfr ho; have c4' : w'.cell? ⟨gg, 4, none⟩ = some v := ((K2.out.ext xt.out).fr hfr OO.out.2.2).cell 4; have f4' : w'.frozen? ⟨gg, 4, none⟩ = false := ((K2.out.ext xt.out).fr hfr OO.out.2.2).frozen 4)
            | (go_simp; go_at_call 104; refine (HAt1.out _).mono ?_; rintro e w7 ⟨rfl, x7⟩; replace xt := Lib.hid (xt.out.trans x7); obtain ⟨c4, ⟨y0, y1, y2, y3⟩, c5⟩ := HNd1.out _ xt.out; have hz8 := xt.out.size; have ng : ¬ gg = w7.heap.size := (by omega); have np : ¬ (ad.add ((k - 1) * 2)).block = w7.heap.size := (by omega); have ca7 : (w7.alloc (.cells #[.int .i64 ka, .int .u64 kz] 114)).cell? ⟨gg, 4, none⟩ = some v := ((K2.out.ext xt.out).ext ((Ext.refl _).alloc _)).cell 4; clear x7))
          all_goals
            have hz7 := xt.out.size
            have m0 : g' ≠ w.heap.size := by
              rcases ho with e | e
              · exact fun x => OO.out.1 (by rw [e, x])
              · omega
            have m1 : g' ≠ w.heap.size + 1 := by
              rcases ho with e | e
              · exact fun x => OO.out.2.1 (by rw [e, x])
              · omega
            have m2 : g' ≠ gg := by
              rcases ho with e | e
              · exact fun x => OO.out.2.2 (by rw [e, x])
              · omega
            obtain ⟨LN, hLN⟩ : ∃ LN, (rowQ F hd nl k).length = LN := ⟨_, rfl⟩
            have RR0 : PutRow w' w.heap.size (.slice (some ⟨g', 0, none⟩) (LN + 1) cap') (rowQ F hd nl k ++ [(ka, kz)]) := by
              unfold PutRow
              rw [flatQ_append, List.length_append, hLN]
              rw [hLN] at hrow'
              exact hrow'
            rw [hLN]
            have OV : Hid ((Value.slice (some ⟨g', 0, none⟩) (LN + 1) cap').ownBlock ≠ some w.heap.size ∧ (Value.slice (some ⟨g', 0, none⟩) (LN + 1) cap').ownBlock ≠ some (w.heap.size + 1) ∧ (Value.slice (some ⟨g', 0, none⟩) (LN + 1) cap').ownBlock ≠ some gg) := Lib.hid ⟨fun e => m0 (by simpa [Value.ownBlock] using e), fun e => m1 (by simpa [Value.ownBlock] using e), fun e => m2 (by simpa [Value.ownBlock] using e)⟩
            have RR := Lib.hid (RR0.far (p := ⟨gg, 4, none⟩) OV.out.2.2 (.slice (some ⟨g', 0, none⟩) (LN + 1) cap'))
            have XW := Lib.hid (hext'.setCell (p := ⟨gg, 4, none⟩) (by show w.heap.size ≤ gg; omega) (.slice (some ⟨g', 0, none⟩) (LN + 1) cap'))
            have KK0 := Lib.hid (((K0.out.ext xt.out).fr hfr OO.out.1).far (p := ⟨gg, 4, none⟩) (by show w.heap.size ≠ gg; omega) (.slice (some ⟨g', 0, none⟩) (LN + 1) cap'))
            have KK1 := Lib.hid (((K1.out.ext xt.out).fr hfr OO.out.2.1).far (p := ⟨gg, 4, none⟩) (by show w.heap.size + 1 ≠ gg; omega) (.slice (some ⟨g', 0, none⟩) (LN + 1) cap'))
            have KK2 := Lib.hid (((K2.out.ext xt.out).fr hfr OO.out.2.2).set 4 (.slice (some ⟨g', 0, none⟩) (LN + 1) cap'))
            clear c4' f4' hrow' hext' hfr ho RR0 m0 m1 m2 K0 K1 K2 RW XK OO HNd1
            generalize w'.setCell ⟨gg, 4, none⟩ (.slice (some ⟨g', 0, none⟩) (LN + 1) cap') = W6 at *
            go_wp2_with fail
            go_meet
            exact ⟨_, bz, az, [(ka, kz)], rfl, rfl, RR.out, by simp, HQ2.out, HBj.out, XW.out, KK0.out, KK1.out, KK2.out, OV.out⟩
      case rest =>
      obtain ⟨v', bz, az, ms, rfl, rfl, row, hms, hq, hbz, xk, k0, k1, k2, o0, o1, o2⟩ := hcut
      generalize wc = w6 at *
      have HLk := Lib.hid (fun W => link_any tz bz (by omega) (by omega) hbz.1 hbz.2 W)
      unfold Tells at HLk
      have elk : ((tz + 1) % 4294967296 + 4294967296 * ((bz + 1) % 128)) = lkV tz bz := rfl
      rw [elk] at HLk
      have RW6 := Lib.hid row
      have XK6 := Lib.hid xk
      have K06 := Lib.hid k0
      have K16 := Lib.hid k1
      have K26 := Lib.hid k2
      have OO6 := Lib.hid (And.intro o0 (And.intro o1 o2))
      have HQ6 := Lib.hid hq
      have HLn : Hid ((rowQ F hd nl k ++ ms).length < 1000000) := Lib.hid (by rw [List.length_append]; have := HQl.out; omega)
      generalize lkV tz bz = lz at *
      have n1 : decide ((k : Int) < 0) = false := by simp
      have n2 : decide (k < 0) = false := by simp
      clear row hms hq hbz xk k0 k1 k2 o0 o1 o2 elk RW XK K0 K1 K2 OO HQl HTz HNd HB HK HNx HAt
      go_wp2_with fail
      refine (HLk.out _).mono ?_
      rintro e w7 ⟨rfl, x7⟩
      have RW7 := Lib.hid (RW6.out.ext x7)
      have XK7 := Lib.hid (XK6.out.trans x7)
      have K07 := Lib.hid (K06.out.ext x7)
      have K17 := Lib.hid (K16.out.ext x7)
      have K27 := Lib.hid (K26.out.ext x7)
      have y4 : w7.cell? ⟨gg, 4, none⟩ = some v' := K27.out.cell 4
      clear x7 RW6 XK6 K06 K16 K26 HLk
      obtain ⟨LM, hLM⟩ : ∃ LM, (rowQ F hd nl k ++ ms).length = LM := ⟨_, rfl⟩
      have hrw7 : w7.ownsRow w.heap.size 114 2 v' LM (flatQ (rowQ F hd nl k ++ ms)) := by rw [← hLM]; exact RW7.out
      have HRW7 := Lib.hid hrw7
      have HLM := Lib.hid hLM
      have hlm6 := HLn.out
      rw [hLM] at hlm6
      have HLn6 := Lib.hid hlm6
      clear hrw7 hLM hlm6
      go_wp2_with ((at_builtin; refine Hid.out ?_))
      refine Lib.hid ?_
      refine wpList_pushPut14 rfl _ _ 24 rfl 114 put_info Tryz.underlying24 w w7 v' LM (flatQ (rowQ F hd nl k ++ ms)) az lz (by rfl) HRW7.out XK7.out (by rfl) HLn6.out ?_
      intro v8 w8 h1 h2 h3 h4
      obtain ⟨g8, cap8, rfl⟩ := ownsRow_succ h1
      have RN : Hid (PutRow w8 w.heap.size (.slice (some ⟨g8, 0, none⟩) (LM + 1) cap8) (rowQ F hd nl (k + 1))) := Lib.hid (by
        unfold PutRow
        rw [HQ6.out, flatQ_append, List.length_append, HLM.out]
        exact h1)
      have XN := Lib.hid h2
      obtain ⟨a1, a2⟩ := h3 gg K27.out.lt OO6.out.2.2
      obtain ⟨a3, a4⟩ := h3 w.heap.size K07.out.lt OO6.out.1
      obtain ⟨a5, a6⟩ := h3 (w.heap.size + 1) K17.out.lt OO6.out.2.1
      have GN : Hid (Blk w8 gg 26 [.int .i64 t, .int .i64 s, .int .i64 l, .int .i64 b, v']) := Lib.hid (a1.trans K27.out)
      have BN : Hid (Blk w8 w.heap.size 23 [.int .i64 t, .int .i64 s, .int .i64 l, .int .i64 b]) := Lib.hid (a3.trans K07.out)
      have ZN : Hid (Blk w8 (w.heap.size + 1) 26 [.int .i64 0, .int .i64 0, .int .i64 0, .int .i64 0, .slice none 0 0]) := Lib.hid (a5.trans K17.out)
      have ON := Lib.hid (And.intro a4 (And.intro a6 a2))
      have y5 : w8.cell? ⟨gg, 4, none⟩ = some v' := GN.out.cell 4
      have z5 : w8.frozen? ⟨gg, 4, none⟩ = false := GN.out.frozen 4
      clear h1 h2 h3 h4 a1 a2 a3 a4 a5 a6 y4 RW7 XK7 K07 K17 K27
      go_wp2_with fail
      go_roundw
      case rel => exact ⟨k + 1, _, by omega, by go_num, RN.out.far (p := ⟨gg, 4, none⟩) ON.out.2.2 _, XN.out.setCell (p := ⟨gg, 4, none⟩) (by show w.heap.size ≤ gg; omega) _, BN.out.far (p := ⟨gg, 4, none⟩) (by show w.heap.size ≠ gg; omega) _, ZN.out.far (p := ⟨gg, 4, none⟩) (by show w.heap.size + 1 ≠ gg; omega) _, GN.out.set 4 _, ON.out⟩
      case measure => simp [intOf]; omega
    · have v1 : decide (k ≤ n) = false := by simp; omega
      have v2 : decide ((k : Int) ≤ (n : Int)) = false := by simp; omega
      obtain rfl : k = n + 1 := by omega
      have hv := RW.out
      unfold PutRow at hv
      obtain ⟨m, hm⟩ : ∃ m, (rowQ F hd nl (n + 1)).length = m + 1 := by
        have h2 : 0 < (rowR F hd nl n).length := by cases n <;> simp [rowR]
        refine ⟨(rowQ F hd nl (n + 1)).length - 1, ?_⟩
        simp only [rowQ, List.length_append]
        omega
      rw [hm] at hv
      obtain ⟨gv, cv, rfl⟩ := ownsRow_succ hv
      clear hv
      have c0 : wr.cell? ⟨gg, 0, none⟩ = some (.int .i64 t) := K2.out.cell 0
      have c1 : wr.cell? ⟨gg, 1, none⟩ = some (.int .i64 s) := K2.out.cell 1
      have c2 : wr.cell? ⟨gg, 2, none⟩ = some (.int .i64 l) := K2.out.cell 2
      have c3 : wr.cell? ⟨gg, 3, none⟩ = some (.int .i64 b) := K2.out.cell 3
      have c4 : wr.cell? ⟨gg, 4, none⟩ = some (.slice (some ⟨gv, 0, none⟩) (m + 1) cv) := K2.out.cell 4
      have d0 : wr.cell? ⟨w.heap.size + 1, 0, none⟩ = some (.int .i64 0) := K1.out.cell 0
      have d1 : wr.cell? ⟨w.heap.size + 1, 1, none⟩ = some (.int .i64 0) := K1.out.cell 1
      have d2 : wr.cell? ⟨w.heap.size + 1, 2, none⟩ = some (.int .i64 0) := K1.out.cell 2
      have d3 : wr.cell? ⟨w.heap.size + 1, 3, none⟩ = some (.int .i64 0) := K1.out.cell 3
      have d4 : wr.cell? ⟨w.heap.size + 1, 4, none⟩ = some (.slice none 0 0) := K1.out.cell 4
      have f0 : wr.frozen? ⟨w.heap.size + 1, 0, none⟩ = false := K1.out.frozen 0
      have f1 : wr.frozen? ⟨w.heap.size + 1, 1, none⟩ = false := K1.out.frozen 1
      have f2 : wr.frozen? ⟨w.heap.size + 1, 2, none⟩ = false := K1.out.frozen 2
      have f3 : wr.frozen? ⟨w.heap.size + 1, 3, none⟩ = false := K1.out.frozen 3
      have f4 : wr.frozen? ⟨w.heap.size + 1, 4, none⟩ = false := K1.out.frozen 4
      have M1 := Lib.hid (((((K1.out.set 0 (.int .i64 t)).set 1 (.int .i64 s)).set 2 (.int .i64 l)).set 3 (.int .i64 b)).set 4 (.slice (some ⟨gv, 0, none⟩) (m + 1) cv))
      have RF := Lib.hid (((((RW.out.far (p := ⟨w.heap.size + 1, 0, none⟩) OO.out.2.1 (.int .i64 t)).far (p := ⟨w.heap.size + 1, 1, none⟩) OO.out.2.1 (.int .i64 s)).far (p := ⟨w.heap.size + 1, 2, none⟩) OO.out.2.1 (.int .i64 l)).far (p := ⟨w.heap.size + 1, 3, none⟩) OO.out.2.1 (.int .i64 b)).far (p := ⟨w.heap.size + 1, 4, none⟩) OO.out.2.1 (.slice (some ⟨gv, 0, none⟩) (m + 1) cv))
      have XF := Lib.hid (((((XK.out.setCell (p := ⟨w.heap.size + 1, 0, none⟩) (by show w.heap.size ≤ w.heap.size + 1; omega) (.int .i64 t)).setCell (p := ⟨w.heap.size + 1, 1, none⟩) (by show w.heap.size ≤ w.heap.size + 1; omega) (.int .i64 s)).setCell (p := ⟨w.heap.size + 1, 2, none⟩) (by show w.heap.size ≤ w.heap.size + 1; omega) (.int .i64 l)).setCell (p := ⟨w.heap.size + 1, 3, none⟩) (by show w.heap.size ≤ w.heap.size + 1; omega) (.int .i64 b)).setCell (p := ⟨w.heap.size + 1, 4, none⟩) (by show w.heap.size ≤ w.heap.size + 1; omega) (.slice (some ⟨gv, 0, none⟩) (m + 1) cv))
      have hs1' := K1.out.lt
      clear RW XK K0 K1 K2 OO HQl
      go_wp2_with fail
      (try simp only [Exit.inBlock, Exit.then])
      refine bodyPost_ret (results_row14 rfl _ _ (w.heap.size + 1) 26 #[.int .i64 t, .int .i64 s, .int .i64 l, .int .i64 b, (.slice (some ⟨gv, 0, none⟩) (m + 1) cv)] (0, 0) _ (by rfl) M1.out Tryz.underlying26 rfl (by kernel_rfl)) rfl ?_
      exact ⟨_, rfl, RF.out, XF.out⟩

def SkM.z (x : SkM) : SkM := ⟨x.part, none, none, x.fat, x.fwd, x.fwh, x.hat, x.hwd, x.hwh, x.fnd, x.rd.map (fun q => (0, q.2)), x.ps.map (fun q => (0, q.2))⟩
theorem fol_z (F : Nat → Int) (x : SkM) (a v u : Int) (n : Nat) : (x.fol F a v u n).z = (x.z.fol F a v u 0).z := by
  unfold SkM.fol
  split <;> rfl
theorem skS_z (F : Nat → Int) (th head key : Int) (x : SkM) (s : MSt) (n : Nat) : (skS F th head key x s n).1.z = (skS F th head key x.z s 0).1.z ∧ (skS F th head key x s n).2 = (skS F th head key x.z s 0).2 := by
  obtain ⟨part, rp, pp, fat, fwd, fwh, hat, hwd, hwh, fnd, rd, ps⟩ := x
  unfold SkM.z
  simp only
  match part with
  | 0 => cases rd <;> cases ps <;> exact ⟨rfl, rfl⟩
  | 1 =>
    cases rd with
    | none => cases ps <;> exact ⟨rfl, rfl⟩
    | some q =>
      refine ⟨?_, rfl⟩
      show (sk1 F head _ q.1 (lrS th hat q.2 s) n).1.z = (sk1 F head _ 0 (lrS th hat q.2 s) 0).1.z
      unfold sk1
      simp only
      split
      · rfl
      · split
        · rfl
        · rw [fol_z]; rfl
  | 2 =>
    cases rd with
    | none => cases ps <;> exact ⟨rfl, rfl⟩
    | some q =>
      refine ⟨?_, rfl⟩
      show (sk2 _ q.1 (lrS th hat q.2 s) n).1.z = (sk2 _ 0 (lrS th hat q.2 s) 0).1.z
      unfold sk2
      simp only
      split
      · rfl
      · split <;> rfl
  | 3 =>
    cases ps with
    | none => cases rd <;> exact ⟨rfl, rfl⟩
    | some q =>
      refine ⟨?_, rfl⟩
      show (sk3 F head _ q.1 (lsS th fat (soN (bhN hwd)) (clN fwd) q.2 s) n).1.z = (sk3 F head _ 0 (lsS th fat (soN (bhN hwd)) (clN fwd) q.2 s) 0).1.z
      unfold sk3
      simp only
      split
      · rfl
      · split
        · rfl
        · rw [fol_z]; rfl
  | k + 4 =>
    refine ⟨?_, rfl⟩
    show (sk4 F th key _ s n).1.z = (sk4 F th key _ s 0).1.z
    unfold sk4
    simp only
    split
    · rw [fol_z]; rfl
    · rfl
theorem gr14 : GrOk ((1 : Nat) : Int) ((2 : Nat) : Int) ((1 : Nat) : Int) ((1 : Nat) : Int) := ⟨⟨by decide, by decide, by decide, by decide⟩, by decide, by decide, by decide, by decide⟩
def nl14 : List (Int × Int) := [(4, -1), (7, -1)]
def F14 : Nat → Int := layF ((1 : Nat) : Int) ((2 : Nat) : Int) ((1 : Nat) : Int) ((1 : Nat) : Int)
def ys14 : List Put := rowQ F14 32 nl14 3
def s14 : MSt := groundSt 1 2 1 1 ys14
def x14 (n : Nat) : SkM := ⟨1, some ⟨n, 0, none⟩, none, 0, 0, 0, 32, 0, 0, false, some (n, lr0), none⟩
def z14 : Nat → SkM × MSt
  | 0 => ((x14 0).z, s14)
  | k + 1 => ((skS F14 0 32 5 (z14 k).1 (z14 k).2 0).1.z, (skS F14 0 32 5 (z14 k).1 (z14 k).2 0).2)
theorem z14_end : (z14 20).1.part = 0 ∧ (z14 20).1.fnd = false ∧ (z14 20).1.fat = nxtN F14 0 ∧ (z14 20).1.fwd = 2 := by decide +kernel
theorem ys14_fit : ∀ i, i < 5 → ((-9223372036854775808 ≤ (ys14.getD i (0, 0)).1 ∧ (ys14.getD i (0, 0)).1 < 9223372036854775808) ∧ (0 ≤ (ys14.getD i (0, 0)).2 ∧ (ys14.getD i (0, 0)).2 < 18446744073709551616)) := by decide +kernel
theorem ys14_len : ys14.length = 5 := by decide +kernel
theorem lay_n14 (t s l b : Nat) (ys : List Put) : (groundSt t s l b ys).dev.n = wN t s l b := (MOk.putAll (MOk.start t s l b) ys).n
theorem z14_keeps : ∀ k : Nat, Fine k (z14 k).2.dev ∧ (z14 k).2.dev.n ≤ 90 ∧ CalmN (100 + (k : Int)) (z14 k).2
  | 0 => ⟨ground_fine 1 2 1 1 ys14, by show (groundSt 1 2 1 1 ys14).dev.n ≤ 90; rw [lay_n14]; have := wN_le (t := 1) (s := 2) (l := 1) (b := 1) (by omega) (by omega) (by omega) (by omega); omega, by show CalmN (100 + ((0 : Nat) : Int)) (groundSt 1 2 1 1 ys14); simpa using ground_calm 1 2 1 1 ys14 (by rw [ys14_len]; omega)⟩
  | k + 1 => by
    obtain ⟨h1, h2, h3⟩ := z14_keeps k
    have h := skS_keeps (n := 0) (F := F14) (th := 0) (head := 32) (key := 5) (x := (z14 k).1) h1 h2 h3
    refine ⟨h.1, h.2.1, ?_⟩
    rw [show (100 : Int) + ((k + 1 : Nat) : Int) = 100 + (k : Int) + 1 by omega]
    exact h.2.2
set_option maxRecDepth 100000 in
set_option maxHeartbeats 8000000 in
theorem awake14_ok (w : World) : Calls Tryz.prog 26 #[] w fun e w' => e = .returned (.bool true) ∧ Ext w w' := by
  have HRo : Hid (∀ W nb, Blk W nb 95 [.int .u32 4, .int .i64 (-1), .int .u32 7, .int .i64 (-1)] → Calls Tryz.prog 40 #[.agg #[.int .i64 1, .int .i64 2, .int .i64 1, .int .i64 1], .int .i64 32, .slice (some ⟨nb, 0, none⟩) 2 2, .slice none 0 0] W fun e w' => ∃ v, e = .returned (.agg #[.int .i64 1, .int .i64 2, .int .i64 1, .int .i64 1, v]) ∧ PutRow w' W.heap.size v ys14 ∧ Ext W w') := Lib.hid (fun W nb hb => row14_ok W 1 2 1 1 ⟨by decide, by decide, by decide, by decide, by decide⟩ 32 ⟨nb, 0, none⟩ nl14 2 2 rfl (by decide) ⟨hb.lt, fun j hj => by
    have hj2 : j = 0 ∨ j = 1 := by have : nl14.length = 2 := rfl; omega
    rcases hj2 with rfl | rfl
    · exact ⟨hb.cell 0, hb.cell 1⟩
    · exact ⟨hb.cell 2, hb.cell 3⟩⟩ (fun j => by
    unfold ndB nl14 I64
    rcases j with _ | _ | j <;> simp) (fun j => by
    unfold ndK nl14
    rcases j with _ | _ | j <;> simp))
  have HLa : Hid (∀ W A c, PutsAt W A ys14 → Calls Tryz.prog 7 #[.agg #[.int .i64 1, .int .i64 2, .int .i64 1, .int .i64 1, .slice A 5 c]] W (GrNew W 1 2 1 1 ys14)) := Lib.hid (fun W A c hY => lay_ok W A 5 c 1 2 1 1 ys14 gr14 ys14_len (by decide) hY)
  have HOk : Hid (Okay F14) := Lib.hid (okayF gr14.1)
  go_enter Tryz.func26, Tryz.ntmps26
  go_upto_region 2 with fail
  have B1 := Lib.hid (Blk.new w 23 [.int .i64 1, .int .i64 2, .int .i64 1, .int .i64 1])
  have X1 := Lib.hid ((Ext.refl w).alloc (.cells #[.int .i64 1, .int .i64 2, .int .i64 1, .int .i64 1] 23))
  generalize w.alloc (.cells #[.int .i64 1, .int .i64 2, .int .i64 1, .int .i64 1] 23) = w1 at *
  have y0 : w1.cell? ⟨w.heap.size, 0, none⟩ = some (.int .i64 1) := B1.out.cell 0
  have y1 : w1.cell? ⟨w.heap.size, 1, none⟩ = some (.int .i64 2) := B1.out.cell 1
  have y2 : w1.cell? ⟨w.heap.size, 2, none⟩ = some (.int .i64 1) := B1.out.cell 2
  have y3 : w1.cell? ⟨w.heap.size, 3, none⟩ = some (.int .i64 1) := B1.out.cell 3
  have HR1 := Lib.hid (HRo.out (w1.alloc (.cells #[.int .u32 4, .int .i64 (-1), .int .u32 7, .int .i64 (-1)] 95)) w1.heap.size (Blk.new w1 95 [.int .u32 4, .int .i64 (-1), .int .u32 7, .int .i64 (-1)]))
  have X2 := Lib.hid (X1.out.alloc (.cells #[.int .u32 4, .int .i64 (-1), .int .u32 7, .int .i64 (-1)] 95))
  clear HRo B1 X1
  go_wp2_with fail
  refine HR1.out.mono ?_
  rintro e w3 ⟨v, rfl, row, x3⟩
  obtain ⟨A, c, rfl, -, -, hY⟩ := row.form (fun i hi => ys14_fit i (by rw [ys14_len] at hi; exact hi))
  rw [ys14_len]
  have X3 := Lib.hid (X2.out.trans x3)
  have HL3 := Lib.hid (HLa.out w3 A c hY)
  unfold GrNew at HL3
  clear row hY x3 HR1 HLa X2 y0 y1 y2 y3
  go_wp2_with fail
  refine HL3.out.mono ?_
  rintro e w4 ⟨gl, gm, dv, pv, g, R, rv, rfl, bl, gr⟩
  have BL := Lib.hid bl
  have GR := Lib.hid gr
  clear bl gr HL3
  go_wp2_with fail
  refine (newSeek_ok w4 gl 0 32 5).mono ?_
  rintro e w5 ⟨gs, gn, rfl, lp, lt, bn, bs, x5⟩
  have hs3 : w3.heap.size ≤ w4.heap.size := GR.out.mem.lt.1.size
  have hgl : gl < w4.heap.size := BL.out.lt
  have hnl : gl ≠ gs := by omega
  have hp0 : w3.heap.size ≤ gs := by omega
  have M5 : IsMem (fun q => (q = gl ∨ q = gs) ∨ SkM.ownB (x14 gn) q) w5 w3 w5 gm dv pv s14 := GR.out.mem.hold x5 (fun q hq => by
    have h5 := x5.size
    rcases hq with (e | e) | (⟨p, e, hq⟩ | ⟨p, e, _⟩)
    · rw [e]; exact ⟨by omega, Or.inl (Or.inr rfl)⟩
    · rw [e]; exact ⟨bs.lt, Or.inr lp⟩
    · injection e with e
      subst e
      rw [hq]; exact ⟨bn.lt, Or.inr (by simp only; omega)⟩
    · cases e)
  have T5 : Hid (SkAt (fun q => q = gl ∨ q = gs) w3 w5 gm gs gl dv pv 0 32 5 (x14 gn) s14) := Lib.hid ⟨M5, bs, fun q e => (by
    injection e with e
    subst e
    exact ⟨⟨fun hh => hh.elim (fun e => by simp only at e; omega) (fun e => by simp only at e; omega), by simp only; omega⟩, bn⟩), fun q e => (by cases e)⟩
  have L5 := Lib.hid (BL.out.ext x5)
  have W5 : Hid ((x14 gn).Wf) := Lib.hid (SkM.beg_wf (x := ⟨0, none, none, 0, 0, 0, 0, 0, 0, false, none, none⟩) ⟨by decide, i64_0, i64_0, w64_0, w64_0, fun e => e.elim (fun (e : (0 : Nat) = 1) => absurd e (by decide)) (fun (e : (0 : Nat) = 2) => absurd e (by decide)), fun _ => rfl, fun (e : (0 : Nat) = 3) => absurd e (by decide), fun _ => rfl, fun (e : 2 ≤ (0 : Nat)) => absurd e (by decide)⟩ ⟨by decide, by decide⟩ gn)
  clear M5 bn bs x5 lp lt BL GR hs3 hgl
  go_wp2_with fail
  go_loopw [7] (fun i wr => ∃ (k : Nat) (x : SkM), k ≤ 20 ∧ i = .int .i64 k ∧ x.Wf ∧ x.z = (z14 k).1 ∧ SkAt (fun q => q = gl ∨ q = gs) w3 wr gm gs gl dv pv 0 32 5 x (z14 k).2 ∧ Blk wr gl 173 (cellsF F14)) (fun i _ => 20 - (intOf i).toNat)
  case atStart => exact ⟨0, x14 gn, by omega, rfl, W5.out, rfl, T5.out, L5.out⟩
  case round =>
    obtain ⟨k, x, hk, rfl, hw, hz, ta, bl⟩ := hrel
    have WK := Lib.hid hw
    have ZK := Lib.hid hz
    have TK := Lib.hid ta
    have LK := Lib.hid bl
    clear hw hz ta bl T5 L5 W5
    by_cases hlt : k < 20
    · have v1 : decide (k < 20) = true := by simp; omega
      have v2 : decide ((k : Int) < 20) = true := by simp; omega
      obtain ⟨f1, f2, f3⟩ := z14_keeps k
      have HS := Lib.hid (skPart_ok (F := F14) (i := k) TK.out (f3.calm (by omega)) (by omega) f1 HOk.out (fun a => TK.out.mem.peekU a) ⟨by decide, by decide⟩ WK.out LK.out (Or.inr rfl) (Or.inl rfl) hnl hp0)
      have HWf := Lib.hid (fun n => skS_wf (F := F14) (th := 0) (head := 32) (key := 5) (n := n) HOk.out ⟨by decide, by decide⟩ (fun a => TK.out.mem.peekU a) WK.out)
      clear f1 f2 f3
      go_wp2_with fail
      refine HS.out.mono ?_
      rintro e w6 ⟨rfl, n, a6, k6⟩
      obtain ⟨z1, z2⟩ := skS_z F14 0 32 5 x (z14 k).2 n
      rw [ZK.out] at z1 z2
      have e1 : (skS F14 0 32 5 (z14 k).1 (z14 k).2 0).1.z = (z14 (k + 1)).1 := rfl
      have e2 : (skS F14 0 32 5 (z14 k).1 (z14 k).2 0).2 = (z14 (k + 1)).2 := rfl
      rw [e1] at z1
      rw [e2] at z2
      rw [z2] at a6
      have A6 := Lib.hid a6
      have Z6 := Lib.hid z1
      have W6 := Lib.hid (HWf.out n)
      have L6 : Hid (Blk w6 gl 173 (cellsF F14)) := Lib.hid ((k6 gl (Or.inl rfl) hnl).trans LK.out)
      generalize decide ((skS F14 0 32 5 x (z14 k).2 0).1.part = 0) = bd at *
      clear a6 k6 z1 z2 e1 e2 HS HWf TK LK WK ZK
      generalize (skS F14 0 32 5 x (z14 k).2 n).1 = x' at *
      go_wp2_with fail
      go_roundw
      case rel => exact ⟨k + 1, x', by omega, by go_num, W6.out, Z6.out, A6.out, L6.out⟩
      case measure => simp [intOf]; omega
    · have v1 : decide (k < 20) = false := by simp; omega
      have v2 : decide ((k : Int) < 20) = false := by simp; omega
      obtain rfl : k = 20 := by omega
      obtain ⟨q1, q2, q3, q4⟩ := z14_end
      have p1 : x.part = 0 := by rw [← q1, ← ZK.out]; rfl
      have p2 : x.fnd = false := by rw [← q2, ← ZK.out]; rfl
      have p3 : x.fat = nxtN F14 0 := by rw [← q3, ← ZK.out]; rfl
      have p4 : x.fwd = 2 := by rw [← q4, ← ZK.out]; rfl
      have hpt := WK.out.part
      have HDn := Lib.hid (skDone_k hpt TK.out.cell4)
      have HFo := Lib.hid (skFound_ok (TK.out.blk.cell 13))
      have HCu : Hid (∀ W, Ext wr W → Calls Tryz.prog 35 #[.pointer (some ⟨gs, 0, none⟩)] W fun e w' => e = .returned (.int .i64 1) ∧ Ext W w') := Lib.hid (fun W x2 => (skCurr_ok ((TK.out.ext x2).endC hpt) (by rw [if_pos p1, p4]; exact ⟨by decide, by decide⟩)).mono (by rintro e w' ⟨rfl, y⟩; exact ⟨by rw [if_pos p1, p4]; rfl, y⟩))
      have HPr : Hid (∀ W, Ext wr W → Calls Tryz.prog 33 #[.pointer (some ⟨gs, 0, none⟩)] W fun e w' => e = .returned (.int .i64 (nxtN F14 0)) ∧ Ext W w') := Lib.hid (fun W x2 => (skPrev_ok ((TK.out.ext x2).endC hpt)).mono (by rintro e w' ⟨rfl, y⟩; exact ⟨by rw [if_pos p1, p3], y⟩))
      have HNe : Hid (∀ W, Ext wr W → Calls Tryz.prog 96 #[.pointer (some ⟨gl, 0, none⟩), .int .i64 0] W fun e w' => e = .returned (.int .i64 (nxtN F14 0)) ∧ Ext W w') := Lib.hid (fun W x2 => next_ok HOk.out gl 0 W (LK.out.ext x2))
      have HWo : Hid (∀ W, Ext wr W → Calls Tryz.prog 34 #[.pointer (some ⟨gs, 0, none⟩)] W fun e w' => e = .returned (.int .u64 2) ∧ Ext W w') := Lib.hid (fun W x2 => (skWord_ok ((TK.out.ext x2).endC hpt)).mono (by rintro e w' ⟨rfl, y⟩; exact ⟨by rw [if_pos p1, p4], y⟩))
      have XK := Lib.hid (X3.out.trans TK.out.mem.lt.1)
      rw [p1] at HDn
      rw [p2] at HFo
      generalize nxtN F14 0 = nz at *
      have d1 : (nz == nz) = true := by simp
      clear q1 q2 q3 q4 p1 p2 p3 p4 hpt TK LK WK ZK X3
      go_wp2_with fail
      refine HDn.out.mono ?_
      rintro e w' ⟨rfl, rfl⟩
      go_wp2_with fail
      refine HFo.out.mono ?_
      rintro e w' ⟨rfl, rfl⟩
      go_wp2_with fail
      refine (HCu.out _ (Ext.refl _)).mono ?_
      rintro e w7 ⟨rfl, x7⟩
      have X7 := Lib.hid x7
      clear x7
      go_wp2_with fail
      refine (HPr.out _ X7.out).mono ?_
      rintro e w8 ⟨rfl, x8⟩
      replace X7 := Lib.hid (X7.out.trans x8)
      clear x8
      go_wp2_with fail
      refine (HNe.out _ X7.out).mono ?_
      rintro e w9 ⟨rfl, x9⟩
      replace X7 := Lib.hid (X7.out.trans x9)
      clear x9
      go_wp2_with fail
      refine (HWo.out _ X7.out).mono ?_
      rintro e w10 ⟨rfl, x10⟩
      replace X7 := Lib.hid (X7.out.trans x10)
      clear x10
      go_wp2_with fail
      go_ret
      exact ⟨rfl, XK.out.trans X7.out⟩
end Go.Proofs.YtbicloceaddinaaGreat

