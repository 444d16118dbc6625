/- limekilnlaw14.Row of any list. Conditions: those that each theorem names. -/
import Derived.Test.YtolengkegjipaaaGreatSk13
import Derived.Test.YtolengkegjipaaaGreatKFreeB
import Derived.Test.YtolengkegjipaaaGreatKFM
import Derived.Deep.DeepCutAuto
import Derived.Laws.ResultCell
namespace Go.Proofs.YtolengkegjipaaaGreat
open Go.ChangeShapes Go.WideShapes Go.ChangeAt Go.RowKit
set_option linter.unusedVariables false
/-- append(row, Put{..}) in a region that draws, whatever the world. -/
theorem step_pushPut14 {P : Program} {ops : Array Oper} {o : Oper} {a : Act} {K : Act → World → Prop} {Q : Exit → Act → World → Prop} {E : Prop} (hgd : o.guard = none) (s x : Operand) (t : TypeId)
    (ho : o.op = .call { callee := .builtin .append, args := #[s, x], argTypes := #[t, t] })
    (e : TypeId) (hinfo : (P.info? e).map (fun i => (i.zero, i.size, i.bytes)) = some (some (.agg #[.int .i64 0, .int .u64 0]), 2, 16)) (ht : P.underlying t = some (.slice e))
    (w0 W : World) (v : Value) (n : Nat) (us : List Value) (r0 r1 : Int) (hs : a.eval s = v) (hrow : W.ownsRow w0.heap.size e 2 v n us) (ext : Ext w0 W)
    (hx : a.eval x = .slice (some ⟨W.heap.size, 0, none⟩) 1 1) (hlen : n < 1000000)
    (h : ∀ g cap w', w'.ownsRow w0.heap.size e 2 (.slice (some ⟨g, 0, none⟩) (n + 1) cap) (n + 1) (us ++ [.int .i64 r0, .int .u64 r1]) → Ext w0 w' → Fr (fun b => v.ownBlock = some b) W w' → (v.ownBlock = some g ∨ W.heap.size ≤ g) → K (a.put o.dst (.slice (some ⟨g, 0, none⟩) (n + 1) cap)) w') :
    if Region.wanted o (yielded ops a.tmps) = true then Oper.wp P o a (W.alloc (.cells #[.int .i64 r0, .int .u64 r1] e)) K Q else E := by
  obtain ⟨i, hi, hz1, hz2, hz3⟩ := info_parts hinfo
  refine step_append_lies _ hgd s x t ho w0.heap.size e i (.agg #[.int .i64 0, .int .u64 0]) 2 16 ht hi hz1 hz2 hz3 rfl (by decide) v n us hs (World.ownsRow.alloc hrow _) ⟨W.heap.size, 0, none⟩ 1 1 [.int .i64 r0, .int .u64 r1] hx rfl ?_ ?_ (by omega) ?_ ?_ ?_ _ rfl ?_
  · intro j u' hj
    have hb := Blk.new W e [.int .i64 r0, .int .u64 r1]
    rw [at0]
    show (W.alloc (.cells #[.int .i64 r0, .int .u64 r1] e)).cell? ⟨W.heap.size, j, none⟩ = _
    rw [hb.cell j]
    exact hj
  · intro u' hu'
    simp at hu'
    rcases hu' with rfl | rfl <;> rfl
  · unfold maxLen; omega
  · omega
  · have := ext.size; simp; omega
  · intro g cap w' hown hg hat _
    have hlt := World.ownsRow.lt hrow
    refine h g cap w' hown ?_ ?_ ?_
    · exact Ext.of ((Below.alloc ext.below ext.size _).grown hg (by have := ext.size; simp; omega) (fun q hq => (hlt q hq).1))
    · have hsz := hg.size
      simp at hsz
      refine ⟨hg.os, hg.tape, hg.output, by omega, fun b hb hne => (hg.block b (by simp; omega) (fun e => hne e.symm)).trans (Below.heap_alloc _ _ _ hb)⟩
    · rcases hat with h | h
      · exact Or.inl h
      · exact Or.inr (by rw [h]; simp)
theorem wpList_pushPut14 {P : Program} {ops : Array Oper} {rest : List Oper} {o : Oper} {a : Act} {Q : Exit → Act → World → Prop} (hgd : o.guard = none) (s x : Operand) (t : TypeId)
    (ho : o.op = .call { callee := .builtin .append, args := #[s, x], argTypes := #[t, t] })
    (e : TypeId) (hinfo : (P.info? e).map (fun i => (i.zero, i.size, i.bytes)) = some (some (.agg #[.int .i64 0, .int .u64 0]), 2, 16)) (ht : P.underlying t = some (.slice e))
    (w0 W : World) (v : Value) (n : Nat) (us : List Value) (r0 r1 : Int) (hs : a.eval s = v) (hrow : W.ownsRow w0.heap.size e 2 v n us) (ext : Ext w0 W)
    (hx : a.eval x = .slice (some ⟨W.heap.size, 0, none⟩) 1 1) (hlen : n < 1000000)
    (h : ∀ v' w', w'.ownsRow w0.heap.size e 2 v' (n + 1) (us ++ [.int .i64 r0, .int .u64 r1]) → Ext w0 w' → (∀ g, g < W.heap.size → v.ownBlock ≠ some g → w'.heap[g]? = W.heap[g]? ∧ v'.ownBlock ≠ some g) → W.heap.size ≤ w'.heap.size → wpList P ops Q rest (a.put o.dst v') w') :
    wpList P ops Q (o :: rest) a (W.alloc (.cells #[.int .i64 r0, .int .u64 r1] e)) := by
  obtain ⟨i, hi, hz1, hz2, hz3⟩ := info_parts hinfo
  refine wpList_append_own_at _ hgd s x t ho w0.heap.size e i (.agg #[.int .i64 0, .int .u64 0]) 2 16 ht hi hz1 hz2 hz3 rfl (by decide) v n us hs (World.ownsRow.alloc hrow _) ⟨W.heap.size, 0, none⟩ 1 1 [.int .i64 r0, .int .u64 r1] hx rfl ?_ ?_ ?_ ?_ ?_ ?_
  · intro j u' hj
    have hb := Blk.new W e [.int .i64 r0, .int .u64 r1]
    rw [at0]
    show (W.alloc (.cells #[.int .i64 r0, .int .u64 r1] e)).cell? ⟨W.heap.size, j, none⟩ = _
    rw [hb.cell j]
    exact hj
  · intro u' hu'
    simp at hu'
    rcases hu' with rfl | rfl <;> rfl
  · unfold maxLen; omega
  · omega
  · have := ext.size; simp; omega
  · intro v' w' hown hg _ hat
    have hlt := World.ownsRow.lt hrow
    have hsz := hg.size
    simp at hsz
    refine h v' w' hown (Ext.of ((Below.alloc ext.below ext.size _).grown hg (by have := ext.size; simp; omega) (fun q hq => (hlt q hq).1))) (fun g hgl hne => ⟨(hg.block g (by simp; omega) (fun e => hne e.symm)).trans (Below.heap_alloc _ _ _ hgl), ?_⟩) (by omega)
    rcases hat with e | e
    · rw [e]; exact hne
    · rw [e]
      simp
      omega
open Go.Sort in

theorem results_row14 {P : Program} {fn : Func} {p : Tmp} {ty : TypeId} (h : fn.results = #[.cell p ty]) (tmps : Array Value) (w : World) (g : Nat) (t : TypeId) (cs : Array Value) (fr : Nat × Nat) (d : TypeDesc)
    (hp : tmps.getD p undef = .pointer (some ⟨g, 0, none⟩)) (hg : w.heap[g]? = some (.cells cs t fr)) (hu : P.underlying ty = some d) (hd : (match d with | .struct _ | .array _ _ => true | _ => false) = true) (hi : (P.info? ty).map (·.size) = some cs.size) :
    (results fn tmps).run P w = .ok (.agg cs) w := by
  have e : (results fn tmps).run P w = ((asAddr (tmps.getD p undef)).run P w).andThen fun a w₁ => (loadVar ty a).run P w₁ := by
    simp only [results, h]
    simp [Sem.run_bind, Result.andThen]
  rw [e, hp]
  simp [asAddr, run_loadVar_row w g t ty cs fr d hg hu hd hi, Result.andThen]
def lkV (a b : Int) : Int := (a + 1) % 4294967296 + 4294967296 * ((b + 1) % 128)
def ndK (nl : List (Int × Int)) (j : Nat) : Int := (nl.getD j (0, 0)).1
def ndB (nl : List (Int × Int)) (j : Nat) : Int := (nl.getD j (0, 0)).2
/-- The puts of a round. -/
def dtV (dl : List Bool) (dn k : Nat) (x : Int) : Int := if k < dn ∧ dl.getD k false = true then soN x else x
def rowR (F : Nat → Int) (hd : Int) (nl : List (Int × Int)) (dl : List Bool) (dn : Nat) (k : Nat) : List Put :=
  match k with
  | 0 => [(hd, dtV dl dn 0 (lkV (if 0 = nl.length then -1 else 0) (-1)))]
  | j + 1 => [(keyN F (j : Int), ndK nl j), (nxtN F (j : Int), dtV dl dn (j + 1) (lkV (if j + 1 = nl.length then -1 else (j : Int) + 1) (ndB nl j)))]
def rowQ (F : Nat → Int) (hd : Int) (nl : List (Int × Int)) (dl : List Bool) (dn : Nat) : Nat → List Put
  | 0 => []
  | k + 1 => rowQ F hd nl dl dn k ++ rowR F hd nl dl dn k
theorem rowQ_len (F : Nat → Int) (hd : Int) (nl : List (Int × Int)) (dl : List Bool) (dn : Nat) : ∀ k, (rowQ F hd nl dl dn k).length ≤ 2 * k
  | 0 => by simp [rowQ]
  | k + 1 => by
    have h := rowQ_len F hd nl dl dn k
    have h2 : (rowR F hd nl dl dn k).length ≤ 2 := by cases k <;> simp [rowR]
    simp only [rowQ, List.length_append]
    omega
/-- Which links are dirty, where it lies. -/
def BoolsAt (w : World) (dd : Addr) (dn : Nat) (dl : List Bool) : Prop := dd.block < w.heap.size ∧ ∀ j, j < dn → w.cell? (dd.add j) = some (.bool (dl.getD j false))
/-- The nodes of a list, where they lie. -/
def NodesAt (w : World) (ad : Addr) (nl : List (Int × Int)) : Prop := ad.block < w.heap.size ∧ ∀ j, j < nl.length → w.cell? (ad.add (j * 2)) = some (.int .u32 (ndK nl j)) ∧ w.cell? ⟨(ad.add (j * 2)).block, (ad.add (j * 2)).off + 1, none⟩ = some (.int .i64 (ndB nl j))

set_option maxRecDepth 100000 in
set_option maxHeartbeats 4000000 in
theorem rowD_ok (w : World) (t s l b : Nat) (cg : CfgN t s l b) (hd : Int) (A : Option Addr) (nl : List (Int × Int)) (n c : Nat) (hn : nl.length = n) (hn2 : n ≤ 40) (hA : 0 < n → ∃ ad, A = some ad ∧ NodesAt w ad nl) (D : Option Addr) (dn dc : Nat) (dl : List Bool) (hD : 0 < dn → ∃ dd, D = some dd ∧ BoolsAt w dd dn dl) (hB : ∀ j, I64 (ndB nl j)) (hK : ∀ j, 0 ≤ ndK nl j ∧ ndK nl j < 4294967296) :
    Calls Tryz.prog 7 #[.agg #[.int .i64 t, .int .i64 s, .int .i64 l, .int .i64 b], .int .i64 hd, .slice A n c, .slice D dn dc] w fun e w' => ∃ v, e = .returned (.agg #[.int .i64 t, .int .i64 s, .int .i64 l, .int .i64 b, v]) ∧ PutRow w' w.heap.size v (rowQ (layF t s l b) hd nl dl dn (n + 1)) ∧ Ext w w' := by
  have X0 := Lib.hid (((Ext.refl w).alloc (.cells #[.int .i64 t, .int .i64 s, .int .i64 l, .int .i64 b] 23)).alloc (.cells #[.int .i64 0, .int .i64 0, .int .i64 0, .int .i64 0, .slice none 0 0] 38))
  have B0 := Lib.hid ((Blk.new w 23 [.int .i64 t, .int .i64 s, .int .i64 l, .int .i64 b]).ext ((Ext.refl (w.alloc (.cells #[.int .i64 t, .int .i64 s, .int .i64 l, .int .i64 b] 23))).alloc (.cells #[.int .i64 0, .int .i64 0, .int .i64 0, .int .i64 0, .slice none 0 0] 38)))
  have R0 : Hid (Blk ((w.alloc (.cells #[.int .i64 t, .int .i64 s, .int .i64 l, .int .i64 b] 23)).alloc (.cells #[.int .i64 0, .int .i64 0, .int .i64 0, .int .i64 0, .slice none 0 0] 38)) (w.heap.size + 1) 38 [.int .i64 0, .int .i64 0, .int .i64 0, .int .i64 0, .slice none 0 0]) := Lib.hid (by have := Blk.new (w.alloc (.cells #[.int .i64 t, .int .i64 s, .int .i64 l, .int .i64 b] 23)) 38 [.int .i64 0, .int .i64 0, .int .i64 0, .int .i64 0, .slice none 0 0]; simp only [World.size_alloc] at this; exact this)
  have HNx := Lib.hid (fun (j : Int) W => rNext_ok cg j W)
  have HAt := Lib.hid (fun (j : Int) W => rKeyAt_ok cg j W)
  have HA0 := Lib.hid hA
  have HD0 := Lib.hid hD
  have HB := Lib.hid hB
  have HK := Lib.hid hK
  clear hA hB hK hD cg
  obtain ⟨F, hF⟩ : ∃ F, layF t s l b = F := ⟨_, rfl⟩
  rw [hF] at HNx HAt ⊢
  clear hF
  go_enter Tryz.func7, Tryz.ntmps7
  go_upto_region 1 with fail
  generalize (w.alloc (.cells #[.int .i64 t, .int .i64 s, .int .i64 l, .int .i64 b] 23)).alloc (.cells #[.int .i64 0, .int .i64 0, .int .i64 0, .int .i64 0, .slice none 0 0] 38) = w1 at *
  have y0 : w1.cell? ⟨w.heap.size, 0, none⟩ = some (.int .i64 t) := B0.out.cell 0
  have y1 : w1.cell? ⟨w.heap.size, 1, none⟩ = some (.int .i64 s) := B0.out.cell 1
  have y2 : w1.cell? ⟨w.heap.size, 2, none⟩ = some (.int .i64 l) := B0.out.cell 2
  have y3 : w1.cell? ⟨w.heap.size, 3, none⟩ = some (.int .i64 b) := B0.out.cell 3
  have hs1 : w.heap.size + 1 < w1.heap.size := R0.out.lt
  go_upto_region 2 with fail
  have x2 := (Ext.refl w1).alloc (.cells #[.int .i64 t, .int .i64 s, .int .i64 l, .int .i64 b, .slice none 0 0] 38)
  have B2 := Lib.hid (B0.out.ext x2)
  have R2 := Lib.hid (R0.out.ext x2)
  have X2 := Lib.hid (X0.out.trans x2)
  have G2 := Lib.hid (Blk.new w1 38 [.int .i64 t, .int .i64 s, .int .i64 l, .int .i64 b, .slice none 0 0])
  obtain ⟨gg, hgg⟩ : ∃ gg, w1.heap.size = gg := ⟨_, rfl⟩
  rw [hgg] at G2 hs1 ⊢
  clear hgg x2 B0 R0 X0 y0 y1 y2 y3
  generalize w1.alloc (.cells #[.int .i64 t, .int .i64 s, .int .i64 l, .int .i64 b, .slice none 0 0] 38) = w2 at *
  go_wp2_with fail
  go_loopw [10] (fun i wr => ∃ (k : Nat) (v : Value), k ≤ n + 1 ∧ i = .int .i64 k ∧ PutRow wr w.heap.size v (rowQ F hd nl dl dn k) ∧ Ext w wr ∧ Blk wr w.heap.size 23 [.int .i64 t, .int .i64 s, .int .i64 l, .int .i64 b] ∧ Blk wr (w.heap.size + 1) 38 [.int .i64 0, .int .i64 0, .int .i64 0, .int .i64 0, .slice none 0 0] ∧ Blk wr gg 38 [.int .i64 t, .int .i64 s, .int .i64 l, .int .i64 b, v] ∧ (v.ownBlock ≠ some w.heap.size ∧ v.ownBlock ≠ some (w.heap.size + 1) ∧ v.ownBlock ≠ some gg)) (fun i _ => n + 1 - (intOf i).toNat)
  case atStart => exact ⟨0, _, Nat.zero_le _, rfl, PutRow.nil _ _, X2.out, B2.out, R2.out, G2.out, by simp [Value.ownBlock], by simp [Value.ownBlock], by simp [Value.ownBlock]⟩
  case round =>
    obtain ⟨k, v, hk, rfl, row, xk, k0, k1, k2, o0, o1, o2⟩ := hrel
    have RW := Lib.hid row
    have XK := Lib.hid xk
    have K0 := Lib.hid k0
    have K1 := Lib.hid k1
    have K2 := Lib.hid k2
    have OO := Lib.hid (And.intro o0 (And.intro o1 o2))
    have HQl := Lib.hid (rowQ_len F hd nl dl dn k)
    have hgk : gg < wr.heap.size := k2.lt
    clear row xk k0 k1 k2 o0 o1 o2 B2 R2 G2 X2
    by_cases hlt : k ≤ n
    · have v1 : decide (k ≤ n) = true := by simp; omega
      have v2 : decide ((k : Int) ≤ (n : Int)) = true := by simp; omega
      obtain ⟨tz, htz⟩ : ∃ tz : Int, (if k = n then -1 else (k : Int)) = tz := ⟨_, rfl⟩
      have HTz := Lib.hid htz
      have ht1 : -1 ≤ tz ∧ tz < 100 := by rw [← htz]; split <;> omega
      clear htz
      go_upto_if 28 with fail
      go_cut [11] (fun s11 wx => s11 = .int .i64 tz ∧ wx = wr)
      case first =>
        by_cases hkn : k = n
        · have e1 : (-1 : Int) = tz := by rw [← HTz.out, if_pos hkn]
          have t1 : ((k : Int) == (n : Int)) = true := by rw [beq_iff_eq]; omega
          have t2 : decide ((k : Int) = (n : Int)) = true := by simp; omega
          have t3 : (k == n) = true := by rw [beq_iff_eq]; omega
          have t4 : decide (k = n) = true := by simp; omega
          have HE := Lib.hid e1
          clear hkn e1
          go_wp2_with fail
          go_meet
          exact ⟨by rw [HE.out], rfl⟩
        · have e1 : (k : Int) = tz := by rw [← HTz.out, if_neg hkn]
          have t1 : ((k : Int) == (n : Int)) = false := by rw [beq_eq_false_iff_ne]; omega
          have t2 : decide ((k : Int) = (n : Int)) = false := by simp; omega
          have t3 : (k == n) = false := by rw [beq_eq_false_iff_ne]; omega
          have t4 : decide (k = n) = false := by simp; omega
          have HE := Lib.hid e1
          clear hkn e1
          go_wp2_with fail
          go_meet
          exact ⟨by rw [HE.out], rfl⟩
      case rest =>
      obtain ⟨rfl, rfl⟩ := hcut
      generalize wc = wr at *
      obtain ⟨b0, hb0⟩ : ∃ b0, decide (0 < k) = b0 := ⟨_, rfl⟩
      have hb1 : decide ((0 : Int) < (k : Int)) = b0 := by rw [← hb0]; simp
      have HB0 := Lib.hid hb0
      go_upto_if 30 with fail
      clear hb0 hb1
      go_cut [12, 13] (fun s12 s13 wx => ∃ (v' : Value) (bz az : Int) (ms : List Put), s12 = .int .i64 bz ∧ s13 = .int .i64 az ∧ PutRow wx w.heap.size v' (rowQ F hd nl dl dn k ++ ms) ∧ ms.length ≤ 1 ∧ rowQ F hd nl dl dn (k + 1) = rowQ F hd nl dl dn k ++ ms ++ [(az, dtV dl dn k (lkV tz bz))] ∧ I64 bz ∧ Ext w wx ∧ Blk wx w.heap.size 23 [.int .i64 t, .int .i64 s, .int .i64 l, .int .i64 b] ∧ Blk wx (w.heap.size + 1) 38 [.int .i64 0, .int .i64 0, .int .i64 0, .int .i64 0, .slice none 0 0] ∧ Blk wx gg 38 [.int .i64 t, .int .i64 s, .int .i64 l, .int .i64 b, v'] ∧ (v'.ownBlock ≠ some w.heap.size ∧ v'.ownBlock ≠ some (w.heap.size + 1) ∧ v'.ownBlock ≠ some gg))
      case first =>
        cases b0
        · have h0 : k = 0 := by have := HB0.out; simp at this; omega
          have HQ2 : Hid (rowQ F hd nl dl dn (k + 1) = rowQ F hd nl dl dn k ++ [] ++ [(hd, dtV dl dn k (lkV tz (-1)))]) := Lib.hid (by
            have e2 := HTz.out
            subst h0
            simp only [rowQ, rowR, List.append_nil]
            rw [← e2, hn]
            rfl)
          clear h0
          go_wp2_with fail
          go_meet
          exact ⟨v, -1, hd, [], rfl, rfl, by rw [List.append_nil]; exact RW.out, by simp, HQ2.out, ⟨by decide, by decide⟩, XK.out, K0.out, K1.out, K2.out, OO.out⟩
        · have h0 : 0 < k := by have := HB0.out; simpa using this
          obtain ⟨j, hj⟩ : ∃ j, k = j + 1 := ⟨k - 1, by omega⟩
          have wj : IntKind.i64.wrap ((k : Int) - 1) = (k : Int) - 1 := i64w _ (by omega) (by omega)
          have hjn : j < n := by omega
          have hjz : (j : Int) = (k : Int) - 1 := by omega
          have hjk : j = k - 1 := by omega
          obtain ⟨ad, rfl, hA1⟩ := HA0.out (by omega)
          have HAb : Hid (ad.block < w.heap.size) := Lib.hid hA1.1
          have HNd : Hid (∀ W, Ext w W → ∀ j, j < n → W.cell? (ad.add (j * 2)) = some (.int .u32 (ndK nl j)) ∧ W.cell? ⟨(ad.add (j * 2)).block, (ad.add (j * 2)).off + 1, none⟩ = some (.int .i64 (ndB nl j))) := Lib.hid (fun W x j hj => by
            have hb : (ad.add (j * 2)).block < w.heap.size := by rw [add_block]; exact hA1.1
            obtain ⟨h1, h2⟩ := hA1.2 j (by omega)
            exact ⟨(x.cell hb).trans h1, (x.cell (p := ⟨(ad.add (j * 2)).block, (ad.add (j * 2)).off + 1, none⟩) hb).trans h2⟩)
          clear hA1 HA0 HD0
          have HQ2 : Hid (rowQ F hd nl dl dn (k + 1) = rowQ F hd nl dl dn k ++ [(keyN F (j : Int), ndK nl j)] ++ [(nxtN F (j : Int), dtV dl dn k (lkV tz (ndB nl j)))]) := Lib.hid (by
            have e2 := HTz.out
            subst hj
            show rowQ F hd nl dl dn (j + 1) ++ rowR F hd nl dl dn (j + 1) = _
            simp only [rowR, List.append_assoc, List.cons_append, List.nil_append]
            rw [← e2, hn]
            split
            · rfl
            · first | rfl | simp)
          rw [hjz] at HQ2
          have i0 : (0 : Int) ≤ (k : Int) - 1 := by omega
          have i8 : (k : Int) - 1 < (n : Int) := by omega
          have i10 : (1 : Int) ≤ (k : Int) := by omega
          have i11 : 1 ≤ k := by omega
          have i9 : ((k : Int) - 1).toNat = k - 1 := by omega
          have i1 : decide ((0 : Int) ≤ (k : Int) - 1) = true := by simp; omega
          have i2 : decide ((k : Int) - 1 < (n : Int)) = true := by simp; omega
          have i3 : decide (k - 1 < n) = true := by simp; omega
          obtain ⟨q0, q1⟩ := HNd.out wr XK.out j hjn
          rw [hjk] at q0 q1
          have HBj := Lib.hid (HB.out j)
          have HKj := Lib.hid (HK.out j)
          have wz := HKj.out
          have wz1 : IntKind.u64.wrap (ndK nl j) = ndK nl j := u64w _ (by omega) (by omega)
          have HNx1 := Lib.hid (HNx.out ((k : Int) - 1))
          have HAt1 := Lib.hid (HAt.out ((k : Int) - 1))
          have HNd1 : Hid (∀ W, Ext wr W → W.cell? ⟨gg, 4, none⟩ = some v ∧ (W.cell? ⟨w.heap.size, 0, none⟩ = some (.int .i64 t) ∧ W.cell? ⟨w.heap.size, 1, none⟩ = some (.int .i64 s) ∧ W.cell? ⟨w.heap.size, 2, none⟩ = some (.int .i64 l) ∧ W.cell? ⟨w.heap.size, 3, none⟩ = some (.int .i64 b)) ∧ W.cell? (ad.add ((k - 1) * 2)) = some (.int .u32 (ndK nl (k - 1)))) := Lib.hid (fun W x => ⟨(K2.out.ext x).cell 4, ⟨(K0.out.ext x).cell 0, (K0.out.ext x).cell 1, (K0.out.ext x).cell 2, (K0.out.ext x).cell 3⟩, by rw [← hjk]; exact (HNd.out W (XK.out.trans x) j hjn).1⟩)
          rw [hjk] at wz1 wz HBj HKj HQ2
          generalize ndB nl (k - 1) = bz at *
          generalize ndK nl (k - 1) = kz at *
          generalize nxtN F ((k : Int) - 1) = az at *
          generalize keyN F ((k : Int) - 1) = ka at *
          have hpb : (ad.add ((k - 1) * 2)).block < wr.heap.size := by rw [add_block]; have := XK.out.size; have := HAb.out; omega
          obtain ⟨c4, ⟨y0, y1, y2, y3⟩, c5⟩ := HNd1.out wr (Ext.refl _)
          clear hj h0 hjk hjz HNd HB HK HNx HAt HTz hlt
          go_wp2_with fail
          refine (HNx1.out _).mono ?_
          rintro e w5 ⟨rfl, x5⟩
          have xt := Lib.hid (x5.drew)
          have x5h := Lib.hid x5
          clear c4 y0 y1 y2 y3 c5 q0 q1
          obtain ⟨c4, ⟨y0, y1, y2, y3⟩, c5⟩ := HNd1.out w5 x5
          have hs5 := x5.size
          clear x5
          go_wp2_with fail
          go_region_law (first
            | (refine step_pushPut14 (by rfl) _ _ 36 (by rfl) 59 put_info Tryz.underlying36 w _ _ _ _ ka kz (by rfl) (RW.out.ext xt.out) (XK.out.trans xt.out) (by rfl) (by have := HQl.out; omega) ?_; intro g' cap' w' hrow' hext' hfr ho; have c4' : w'.cell? ⟨gg, 4, none⟩ = some v := ((K2.out.ext xt.out).fr hfr OO.out.2.2).cell 4; have f4' : w'.frozen? ⟨gg, 4, none⟩ = false := ((K2.out.ext xt.out).fr hfr OO.out.2.2).frozen 4)
            | (go_simp; go_at_call 20; refine (HAt1.out _).mono ?_; rintro e w7 ⟨rfl, x7⟩; replace xt := Lib.hid (xt.out.trans x7); obtain ⟨c4, ⟨y0, y1, y2, y3⟩, c5⟩ := HNd1.out _ xt.out; have hz8 := xt.out.size; have ng : ¬ gg = w7.heap.size := (by omega); have np : ¬ (ad.add ((k - 1) * 2)).block = w7.heap.size := (by omega); have ca7 : (w7.alloc (.cells #[.int .i64 ka, .int .u64 kz] 59)).cell? ⟨gg, 4, none⟩ = some v := ((K2.out.ext xt.out).ext ((Ext.refl _).alloc _)).cell 4; clear x7))
          all_goals
            have hz7 := xt.out.size
            have m0 : g' ≠ w.heap.size := by
              rcases ho with e | e
              · exact fun x => OO.out.1 (by rw [e, x])
              · omega
            have m1 : g' ≠ w.heap.size + 1 := by
              rcases ho with e | e
              · exact fun x => OO.out.2.1 (by rw [e, x])
              · omega
            have m2 : g' ≠ gg := by
              rcases ho with e | e
              · exact fun x => OO.out.2.2 (by rw [e, x])
              · omega
            obtain ⟨LN, hLN⟩ : ∃ LN, (rowQ F hd nl dl dn k).length = LN := ⟨_, rfl⟩
            have RR0 : PutRow w' w.heap.size (.slice (some ⟨g', 0, none⟩) (LN + 1) cap') (rowQ F hd nl dl dn k ++ [(ka, kz)]) := by
              unfold PutRow
              rw [flatQ_append, List.length_append, hLN]
              rw [hLN] at hrow'
              exact hrow'
            rw [hLN]
            have OV : Hid ((Value.slice (some ⟨g', 0, none⟩) (LN + 1) cap').ownBlock ≠ some w.heap.size ∧ (Value.slice (some ⟨g', 0, none⟩) (LN + 1) cap').ownBlock ≠ some (w.heap.size + 1) ∧ (Value.slice (some ⟨g', 0, none⟩) (LN + 1) cap').ownBlock ≠ some gg) := Lib.hid ⟨fun e => m0 (by simpa [Value.ownBlock] using e), fun e => m1 (by simpa [Value.ownBlock] using e), fun e => m2 (by simpa [Value.ownBlock] using e)⟩
            have RR := Lib.hid (RR0.far (p := ⟨gg, 4, none⟩) OV.out.2.2 (.slice (some ⟨g', 0, none⟩) (LN + 1) cap'))
            have XW := Lib.hid (hext'.setCell (p := ⟨gg, 4, none⟩) (by show w.heap.size ≤ gg; omega) (.slice (some ⟨g', 0, none⟩) (LN + 1) cap'))
            have KK0 := Lib.hid (((K0.out.ext xt.out).fr hfr OO.out.1).far (p := ⟨gg, 4, none⟩) (by show w.heap.size ≠ gg; omega) (.slice (some ⟨g', 0, none⟩) (LN + 1) cap'))
            have KK1 := Lib.hid (((K1.out.ext xt.out).fr hfr OO.out.2.1).far (p := ⟨gg, 4, none⟩) (by show w.heap.size + 1 ≠ gg; omega) (.slice (some ⟨g', 0, none⟩) (LN + 1) cap'))
            have KK2 := Lib.hid (((K2.out.ext xt.out).fr hfr OO.out.2.2).set 4 (.slice (some ⟨g', 0, none⟩) (LN + 1) cap'))
            clear c4' f4' hrow' hext' hfr ho RR0 m0 m1 m2 K0 K1 K2 RW XK OO HNd1
            generalize w'.setCell ⟨gg, 4, none⟩ (.slice (some ⟨g', 0, none⟩) (LN + 1) cap') = W6 at *
            go_wp2_with fail
            go_meet
            exact ⟨_, bz, az, [(ka, kz)], rfl, rfl, RR.out, by simp, HQ2.out, HBj.out, XW.out, KK0.out, KK1.out, KK2.out, OV.out⟩
      case rest =>
      obtain ⟨v', bz, az, ms, rfl, rfl, row, hms, hq, hbz, xk, k0, k1, k2, o0, o1, o2⟩ := hcut
      generalize wc = w6 at *
      have HLk := Lib.hid (fun W => link_any tz bz (by omega) (by omega) hbz.1 hbz.2 W)
      unfold Tells at HLk
      have elk : ((tz + 1) % 4294967296 + 4294967296 * ((bz + 1) % 128)) = lkV tz bz := rfl
      rw [elk] at HLk
      have RW6 := Lib.hid row
      have XK6 := Lib.hid xk
      have K06 := Lib.hid k0
      have K16 := Lib.hid k1
      have K26 := Lib.hid k2
      have OO6 := Lib.hid (And.intro o0 (And.intro o1 o2))
      have HQ6 := Lib.hid hq
      have HLn : Hid ((rowQ F hd nl dl dn k ++ ms).length < 1000000) := Lib.hid (by rw [List.length_append]; have := HQl.out; omega)
      have HLz : Hid (W64 (lkV tz bz)) := Lib.hid (by unfold lkV W64; omega)
      generalize lkV tz bz = lz at *
      clear row hms hq hbz xk k0 k1 k2 o0 o1 o2 elk RW XK K0 K1 K2 OO HQl HTz HB HK HNx HAt HA0
      go_wp2_with fail
      refine (HLk.out _).mono ?_
      rintro e w7 ⟨rfl, x7⟩
      have RW7 := Lib.hid (RW6.out.ext x7)
      have XK7 := Lib.hid (XK6.out.trans x7)
      have K07 := Lib.hid (K06.out.ext x7)
      have K17 := Lib.hid (K16.out.ext x7)
      have K27 := Lib.hid (K26.out.ext x7)
      clear x7 RW6 XK6 K06 K16 K26 HLk
      have hlz : W64 lz := HLz.out
      have HSo : Hid (∀ W, Calls Tryz.prog 22 #[.int .u64 lz] W fun e w' => e = .returned (.int .u64 (soN lz)) ∧ Ext W w') := Lib.hid (fun W => soil_any lz hlz.1 hlz.2 W)
      obtain ⟨dz, hdz⟩ : ∃ dz, dtV dl dn k lz = dz := ⟨_, rfl⟩
      rw [hdz] at HQ6
      have HDz := Lib.hid hdz
      clear hdz
      obtain ⟨cz, hcz⟩ : ∃ cz : Bool, (decide (k < dn) && dl.getD k false) = cz := ⟨_, rfl⟩
      have HCz := Lib.hid hcz
      clear hcz
      go_upto_region 13 with fail
      go_cut [71] (fun s71 wx => s71 = .bool cz ∧ wx = w7)
      case first =>
        by_cases hn1 : k < dn
        · obtain ⟨dd, rfl, hB1⟩ := HD0.out (by omega)
          have q0 : w7.cell? (dd.add k) = some (.bool (dl.getD k false)) := (XK7.out.cell (by rw [add_block]; exact hB1.1)).trans (hB1.2 k hn1)
          have i1 : decide ((0 : Int) ≤ (k : Int)) = true := by simp
          have i2 : (k : Int).toNat = k := by omega
          have i3 : (k : Int) < (dn : Int) := by omega
          have i0 : (0 : Int) ≤ (k : Int) := by omega
          have v3 : decide (k < dn) = true := by simp; omega
          have v4 : decide ((k : Int) < (dn : Int)) = true := by simp; omega
          have HE : Hid (dl.getD k false = cz) := Lib.hid (by rw [← HCz.out, v3]; rfl)
          generalize dl.getD k false = bv at *
          clear hB1 hn1
          go_wp2_with fail
          go_meet
          exact ⟨by rw [HE.out], rfl⟩
        · have v3 : decide (k < dn) = false := by simp; omega
          have v4 : decide ((k : Int) < (dn : Int)) = false := by simp; omega
          have HE : Hid (false = cz) := Lib.hid (by rw [← HCz.out, v3]; rfl)
          clear hn1
          go_wp2_with fail
          go_meet
          exact ⟨by rw [HE.out], rfl⟩
      case rest =>
      obtain ⟨rfl, rfl⟩ := hcut
      generalize wc = w7 at *
      have HEz : Hid (dz = if cz = true then soN lz else lz) := Lib.hid (by
        rw [← HDz.out, ← HCz.out]
        unfold dtV
        by_cases h1 : k < dn
        · cases h2 : dl.getD k false
          · rw [if_neg (fun h => absurd h.2 (by decide)), if_neg (by simp)]
          · rw [if_pos ⟨h1, rfl⟩, if_pos (by simp [h1])]
        · rw [if_neg (fun h => h1 h.1), if_neg (by simp [h1])])
      go_upto_if 71 with fail
      go_cut [14] (fun s14 wx => s14 = .int .u64 dz ∧ Ext w7 wx)
      case first =>
        cases cz
        · have HE : Hid (lz = dz) := Lib.hid (by rw [HEz.out, if_neg (by decide)])
          go_wp2_with fail
          go_meet
          exact ⟨by rw [HE.out], Ext.refl _⟩
        · have HE : Hid (soN lz = dz) := Lib.hid (by rw [HEz.out, if_pos rfl])
          go_wp2_with fail
          refine (HSo.out _).mono ?_
          rintro e w8 ⟨rfl, x8⟩
          have X8 := Lib.hid x8
          clear x8
          go_wp2_with fail
          go_meet
          exact ⟨by rw [HE.out], X8.out⟩
      case rest =>
      obtain ⟨rfl, x9⟩ := hcut
      generalize wc = w9 at *
      replace RW7 := Lib.hid (RW7.out.ext x9)
      replace XK7 := Lib.hid (XK7.out.trans x9)
      replace K07 := Lib.hid (K07.out.ext x9)
      replace K17 := Lib.hid (K17.out.ext x9)
      replace K27 := Lib.hid (K27.out.ext x9)
      clear x9 HDz HSo hlz
      have y4 : w9.cell? ⟨gg, 4, none⟩ = some v' := K27.out.cell 4
      obtain ⟨LM, hLM⟩ : ∃ LM, (rowQ F hd nl dl dn k ++ ms).length = LM := ⟨_, rfl⟩
      have hrw7 : w9.ownsRow w.heap.size 59 2 v' LM (flatQ (rowQ F hd nl dl dn k ++ ms)) := by rw [← hLM]; exact RW7.out
      have HRW7 := Lib.hid hrw7
      have HLM := Lib.hid hLM
      have hlm6 := HLn.out
      rw [hLM] at hlm6
      have HLn6 := Lib.hid hlm6
      clear hrw7 hLM hlm6
      go_wp2_with ((at_builtin; refine Hid.out ?_))
      refine Lib.hid ?_
      refine wpList_pushPut14 rfl _ _ 36 rfl 59 put_info Tryz.underlying36 w w9 v' LM (flatQ (rowQ F hd nl dl dn k ++ ms)) az dz (by rfl) HRW7.out XK7.out (by rfl) HLn6.out ?_
      intro v8 w8 h1 h2 h3 h4
      obtain ⟨g8, cap8, rfl⟩ := ownsRow_succ h1
      have RN : Hid (PutRow w8 w.heap.size (.slice (some ⟨g8, 0, none⟩) (LM + 1) cap8) (rowQ F hd nl dl dn (k + 1))) := Lib.hid (by
        unfold PutRow
        rw [HQ6.out, flatQ_append, List.length_append, HLM.out]
        exact h1)
      have XN := Lib.hid h2
      obtain ⟨a1, a2⟩ := h3 gg K27.out.lt OO6.out.2.2
      obtain ⟨a3, a4⟩ := h3 w.heap.size K07.out.lt OO6.out.1
      obtain ⟨a5, a6⟩ := h3 (w.heap.size + 1) K17.out.lt OO6.out.2.1
      have GN : Hid (Blk w8 gg 38 [.int .i64 t, .int .i64 s, .int .i64 l, .int .i64 b, v']) := Lib.hid (a1.trans K27.out)
      have BN : Hid (Blk w8 w.heap.size 23 [.int .i64 t, .int .i64 s, .int .i64 l, .int .i64 b]) := Lib.hid (a3.trans K07.out)
      have ZN : Hid (Blk w8 (w.heap.size + 1) 38 [.int .i64 0, .int .i64 0, .int .i64 0, .int .i64 0, .slice none 0 0]) := Lib.hid (a5.trans K17.out)
      have ON := Lib.hid (And.intro a4 (And.intro a6 a2))
      have y5 : w8.cell? ⟨gg, 4, none⟩ = some v' := GN.out.cell 4
      have z5 : w8.frozen? ⟨gg, 4, none⟩ = false := GN.out.frozen 4
      clear h1 h2 h3 h4 a1 a2 a3 a4 a5 a6 y4 RW7 XK7 K07 K17 K27
      go_wp2_with fail
      go_roundw
      case rel => exact ⟨k + 1, _, by omega, by go_num, RN.out.far (p := ⟨gg, 4, none⟩) ON.out.2.2 _, XN.out.setCell (p := ⟨gg, 4, none⟩) (by show w.heap.size ≤ gg; omega) _, BN.out.far (p := ⟨gg, 4, none⟩) (by show w.heap.size ≠ gg; omega) _, ZN.out.far (p := ⟨gg, 4, none⟩) (by show w.heap.size + 1 ≠ gg; omega) _, GN.out.set 4 _, ON.out⟩
      case measure => simp [intOf]; omega
    · have v1 : decide (k ≤ n) = false := by simp; omega
      have v2 : decide ((k : Int) ≤ (n : Int)) = false := by simp; omega
      obtain rfl : k = n + 1 := by omega
      have hv := RW.out
      unfold PutRow at hv
      obtain ⟨m, hm⟩ : ∃ m, (rowQ F hd nl dl dn (n + 1)).length = m + 1 := by
        have h2 : 0 < (rowR F hd nl dl dn n).length := by cases n <;> simp [rowR]
        refine ⟨(rowQ F hd nl dl dn (n + 1)).length - 1, ?_⟩
        simp only [rowQ, List.length_append]
        omega
      rw [hm] at hv
      obtain ⟨gv, cv, rfl⟩ := ownsRow_succ hv
      clear hv
      have c0 : wr.cell? ⟨gg, 0, none⟩ = some (.int .i64 t) := K2.out.cell 0
      have c1 : wr.cell? ⟨gg, 1, none⟩ = some (.int .i64 s) := K2.out.cell 1
      have c2 : wr.cell? ⟨gg, 2, none⟩ = some (.int .i64 l) := K2.out.cell 2
      have c3 : wr.cell? ⟨gg, 3, none⟩ = some (.int .i64 b) := K2.out.cell 3
      have c4 : wr.cell? ⟨gg, 4, none⟩ = some (.slice (some ⟨gv, 0, none⟩) (m + 1) cv) := K2.out.cell 4
      have d0 : wr.cell? ⟨w.heap.size + 1, 0, none⟩ = some (.int .i64 0) := K1.out.cell 0
      have d1 : wr.cell? ⟨w.heap.size + 1, 1, none⟩ = some (.int .i64 0) := K1.out.cell 1
      have d2 : wr.cell? ⟨w.heap.size + 1, 2, none⟩ = some (.int .i64 0) := K1.out.cell 2
      have d3 : wr.cell? ⟨w.heap.size + 1, 3, none⟩ = some (.int .i64 0) := K1.out.cell 3
      have d4 : wr.cell? ⟨w.heap.size + 1, 4, none⟩ = some (.slice none 0 0) := K1.out.cell 4
      have f0 : wr.frozen? ⟨w.heap.size + 1, 0, none⟩ = false := K1.out.frozen 0
      have f1 : wr.frozen? ⟨w.heap.size + 1, 1, none⟩ = false := K1.out.frozen 1
      have f2 : wr.frozen? ⟨w.heap.size + 1, 2, none⟩ = false := K1.out.frozen 2
      have f3 : wr.frozen? ⟨w.heap.size + 1, 3, none⟩ = false := K1.out.frozen 3
      have f4 : wr.frozen? ⟨w.heap.size + 1, 4, none⟩ = false := K1.out.frozen 4
      have M1 := Lib.hid (((((K1.out.set 0 (.int .i64 t)).set 1 (.int .i64 s)).set 2 (.int .i64 l)).set 3 (.int .i64 b)).set 4 (.slice (some ⟨gv, 0, none⟩) (m + 1) cv))
      have RF := Lib.hid (((((RW.out.far (p := ⟨w.heap.size + 1, 0, none⟩) OO.out.2.1 (.int .i64 t)).far (p := ⟨w.heap.size + 1, 1, none⟩) OO.out.2.1 (.int .i64 s)).far (p := ⟨w.heap.size + 1, 2, none⟩) OO.out.2.1 (.int .i64 l)).far (p := ⟨w.heap.size + 1, 3, none⟩) OO.out.2.1 (.int .i64 b)).far (p := ⟨w.heap.size + 1, 4, none⟩) OO.out.2.1 (.slice (some ⟨gv, 0, none⟩) (m + 1) cv))
      have XF := Lib.hid (((((XK.out.setCell (p := ⟨w.heap.size + 1, 0, none⟩) (by show w.heap.size ≤ w.heap.size + 1; omega) (.int .i64 t)).setCell (p := ⟨w.heap.size + 1, 1, none⟩) (by show w.heap.size ≤ w.heap.size + 1; omega) (.int .i64 s)).setCell (p := ⟨w.heap.size + 1, 2, none⟩) (by show w.heap.size ≤ w.heap.size + 1; omega) (.int .i64 l)).setCell (p := ⟨w.heap.size + 1, 3, none⟩) (by show w.heap.size ≤ w.heap.size + 1; omega) (.int .i64 b)).setCell (p := ⟨w.heap.size + 1, 4, none⟩) (by show w.heap.size ≤ w.heap.size + 1; omega) (.slice (some ⟨gv, 0, none⟩) (m + 1) cv))
      have hs1' := K1.out.lt
      clear RW XK K0 K1 K2 OO HQl
      go_wp2_with fail
      (try simp only [Exit.inBlock, Exit.then])
      refine bodyPost_ret (results_row14 rfl _ _ (w.heap.size + 1) 38 #[.int .i64 t, .int .i64 s, .int .i64 l, .int .i64 b, (.slice (some ⟨gv, 0, none⟩) (m + 1) cv)] (0, 0) _ (by rfl) M1.out Tryz.underlying38 rfl (by kernel_rfl)) rfl ?_
      exact ⟨_, rfl, RF.out, XF.out⟩
end Go.Proofs.YtolengkegjipaaaGreat

