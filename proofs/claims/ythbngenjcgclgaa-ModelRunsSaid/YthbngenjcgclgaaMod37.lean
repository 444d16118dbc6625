/- Layer 8: the document's pairs. Conditions: those that each theorem names. -/
import Derived.Test.YthbngenjcgclgaaMod36
namespace Go.Proofs.Ythbngenjcgclgaa
open Go.ChangeShapes Go.WideShapes Go.ChangeAt Go.RowKit
set_option linter.unusedVariables false
/-- One round of the document's pairs. -/
def pairStep (k : Pr) (s : List Pr × Bool) (x : Pr) : List Pr × Bool :=
  if s.2 = false ∧ k.1 < x.1 then ((if x.1 = k.1 then s.1 ++ [k] else s.1 ++ [k] ++ [x]), true) else ((if x.1 = k.1 then s.1 else s.1 ++ [x]), s.2)
def pairsEnd (k : Pr) (s : List Pr × Bool) : List Pr := if s.2 = true then s.1 else s.1 ++ [k]
def pairsR (l : List Pr) (k : Pr) (there : Bool) : List Pr := pairsEnd k (l.foldl (pairStep k) ([], !there))
theorem pairs_done (k : Pr) : ∀ (l acc : List Pr), l.foldl (pairStep k) (acc, true) = (acc ++ left (CutP k.1) l, true)
  | [], acc => by simp [left]
  | x :: l, acc => by
    have e : pairStep k (acc, true) x = ((if x.1 = k.1 then acc else acc ++ [x]), true) := by unfold pairStep; simp
    rw [List.foldl_cons, e]
    by_cases h : x.1 = k.1
    · rw [if_pos h, pairs_done k l acc]
      unfold left CutP
      simp [h]
    · rw [if_neg h, pairs_done k l (acc ++ [x])]
      unfold left CutP
      simp [h]
theorem pairs_put (k : Pr) : ∀ (l acc : List Pr), (∀ x ∈ l, x.1 ≠ k.1) → pairsEnd k (l.foldl (pairStep k) (acc, false)) = acc ++ sortP l k
  | [], acc, _ => by simp [pairsEnd, sortP]
  | x :: l, acc, hn => by
    have hx : ¬ x.1 = k.1 := hn x (by simp)
    have hl : ∀ y ∈ l, y.1 ≠ k.1 := fun y hy => hn y (List.mem_cons_of_mem _ hy)
    rw [List.foldl_cons]
    by_cases h : k.1 < x.1
    · have e : pairStep k (acc, false) x = (acc ++ [k] ++ [x], true) := by unfold pairStep; simp [h, hx]
      rw [e, pairs_done]
      have e2 : left (CutP k.1) l = l := left_all (fun p hp => by unfold CutP; simp; exact hl p hp)
      rw [e2]
      unfold pairsEnd sortP
      rw [if_pos rfl, if_pos h]
      simp
    · have e : pairStep k (acc, false) x = (acc ++ [x], false) := by unfold pairStep; simp [h, hx]
      rw [e, pairs_put k l _ hl]
      conv => rhs; unfold sortP
      rw [if_neg h]
      simp
theorem pairsR_put (l : List Pr) (k : Pr) (h : hasP l k.1 = false) : pairsR l k true = insP l (posP l k.1) k := by
  have hn : ∀ x ∈ l, x.1 ≠ k.1 := fun x hx e => by rw [(hasP_mem l k.1).2 ⟨x.2, by rw [← e]; exact hx⟩] at h; cases h
  rw [insP_sort]
  unfold pairsR
  have := pairs_put k l [] hn
  rw [List.nil_append] at this
  exact this
theorem pairsR_cut (l : List Pr) (k : Pr) : pairsR l k false = left (CutP k.1) l := by
  unfold pairsR
  have := pairs_done k l []
  rw [List.nil_append] at this
  show pairsEnd k (l.foldl (pairStep k) ([], true)) = _
  rw [this]
  rfl
theorem pairStep_len (k : Pr) (s : List Pr × Bool) (x : Pr) : (pairStep k s x).1.length ≤ s.1.length + 2 := by
  unfold pairStep
  split
  · show (if x.1 = k.1 then s.1 ++ [k] else s.1 ++ [k] ++ [x]).length ≤ _
    split <;> simp
  · show (if x.1 = k.1 then s.1 else s.1 ++ [x]).length ≤ _
    split <;> simp
theorem pairs_len (k : Pr) (b : Bool) (l : List Pr) : ∀ i, i ≤ l.length → ((l.take i).foldl (pairStep k) ([], b)).1.length ≤ 2 * i
  | 0, _ => by simp
  | i + 1, h => by
    rw [fold_take (pairStep k) ([], b) l (0, 0) i (by omega)]
    have h1 := pairs_len k b l i (by omega)
    have h2 := pairStep_len k ((l.take i).foldl (pairStep k) ([], b)) (l.getD i (0, 0))
    omega
/-- append(s, p), of a row of pairs of the call's own. -/
theorem wpList_pushP {ops : Array Oper} {rest : List Oper} {o : Oper} {a : Act} {Q : Exit → Act → World → Prop} (hgd : o.guard = none) (s x : Operand) (t : TypeId)
    (ho : o.op = .call { callee := .builtin .append, args := #[s, x], argTypes := #[t, t] }) (ht : Try.prog.underlying t = some (.slice 46))
    (w0 W : World) (v : Value) (ps : List Pr) (p : Pr) (hs : a.eval s = v) (hrow : PRow W w0.heap.size v ps) (ext : Ext w0 W)
    (hx : a.eval x = .slice (some ⟨W.heap.size, 0, none⟩) 1 1) (hlen : ps.length < 999999999)
    (h : ∀ v' w', PRow w' w0.heap.size v' (ps ++ [p]) → Ext w0 w' → wpList Try.prog ops Q rest (a.put o.dst v') w') :
    wpList Try.prog ops Q (o :: rest) a (W.alloc (.cells #[.int .u32 p.1, .int .u32 p.2] 46)) := by
  refine wpList_appN hgd s x t ho 46 .u32 2 8 (.agg #[.int .u32 0, .int .u32 0]) pair_info rfl (by decide) (by decide) ht w0 _ v ps.length (flat ps) hs (RowN.ext hrow ((Ext.refl W).alloc _)) (ext.alloc _) ⟨W.heap.size, 0, none⟩ 1 1 [p.1, p.2] hx rfl (two_at (Blk.new W _ _)) (by omega) ?_
  intro v' w' h1 h2 _ _
  refine h v' w' ?_ h2
  unfold PRow
  rw [flat_append, List.length_append]
  exact h1
set_option maxRecDepth 100000 in
set_option maxHeartbeats 4000000 in
theorem pairs_ok (w : World) (A : Option Addr) (n c : Nat) (zs : List Pr) (ka kb : Int) (there : Bool) (hl : zs.length = n) (hn : n ≤ 1000000) (h : PAt w A zs) :
    Calls Try.prog 20 #[.slice A n c, .agg #[.int .u32 ka, .int .u32 kb], .bool there] w fun e w' => ∃ v', e = .returned v' ∧ PRow w' w.heap.size v' (pairsR zs (ka, kb) there) ∧ Ext w w' := by
  have e0 := (Ext.refl w).alloc (.cells #[.int .u32 ka, .int .u32 kb] 46)
  have hsz : (w.alloc (.cells #[.int .u32 ka, .int .u32 kb] 46)).heap.size = w.heap.size + 1 := by simp
  have BK := Lib.hid (Blk.new w 46 [.int .u32 ka, .int .u32 kb])
  have HP := Lib.hid (h.ext e0)
  have HL := Lib.hid hl
  have E0 := Lib.hid e0
  clear h hl e0
  go_enter Try.func20, Try.ntmps20
  go_wp2_with fail
  generalize hw0 : w.alloc (.cells #[.int .u32 ka, .int .u32 kb] 46) = W0 at *
  clear hw0
  go_loopw [7, 8, 9] (fun v d i wr => ∃ (k : Nat) (out : List Pr) (dn : Bool), k ≤ n ∧ i = .int .i64 k ∧ d = .bool dn ∧ (zs.take k).foldl (pairStep (ka, kb)) ([], !there) = (out, dn) ∧ PRow wr W0.heap.size v out ∧ Ext W0 wr) (fun _ _ i _ => n - (intOf i).toNat)
  case atStart => exact ⟨0, [], !there, Nat.zero_le _, rfl, by cases there <;> rfl, rfl, PRow.nil _ _, Ext.refl _⟩
  case round =>
    obtain ⟨k, out, dn, hk, rfl, rfl, hf, row, xk⟩ := hrel
    have hlen := pairs_len (ka, kb) (!there) zs k (by rw [HL.out]; exact hk)
    rw [hf] at hlen
    simp only at hlen
    have HF := Lib.hid hf
    have RO := Lib.hid row
    have XK := Lib.hid xk
    have HLEN : Hid (out.length < 99999999) := Lib.hid (by omega)
    have bk := BK.out.ext xk
    have b0 : wr.cell? ⟨w.heap.size, 0, none⟩ = some (.int .u32 ka) := bk.cell 0
    have b1 : wr.cell? ⟨w.heap.size, 1, none⟩ = some (.int .u32 kb) := bk.cell 1
    clear hf row xk hlen bk
    by_cases hlt : k < n
    · have v1 : decide (k < n) = true := by simp; omega
      have hll := HL.out
      obtain ⟨ad, hA, hbl, hc⟩ := (HP.out.ext XK.out) (by omega)
      obtain ⟨q0, q1⟩ := hc k (by omega)
      have HS := Lib.hid (fold_take (pairStep (ka, kb)) ([], !there) zs (0, 0) k (by omega))
      obtain ⟨z, hz⟩ : ∃ z, zs.getD k (0, 0) = z := ⟨_, rfl⟩
      rw [hz] at q0 q1 HS
      obtain ⟨x, y⟩ := z
      simp only at q0 q1
      clear hc hll
      subst hA
      have HQ : Hid (∀ W, Ext W0 W → W.cell? (ad.add (k * 2)) = some (.int .u32 x) ∧ W.cell? ⟨(ad.add (k * 2)).block, (ad.add (k * 2)).off + 1, none⟩ = some (.int .u32 y)) := Lib.hid (fun W y' => by
        obtain ⟨ad', e, _, hc⟩ := (HP.out.ext y') (by rw [HL.out]; omega)
        injection e with e
        subst e
        have := hc k (by rw [HL.out]; exact hlt)
        rw [hz] at this
        exact this)
      clear hz
      by_cases hput : dn = false ∧ ka < x
      · obtain ⟨rfl, hkx⟩ := hput
        have t1 : decide (ka < x) = true := by simpa using hkx
        have hne : (x != ka) = true := by rw [bne_iff_ne]; omega
        have hst : Hid (pairStep (ka, kb) (out, false) (x, y) = (out ++ [(ka, kb)] ++ [(x, y)], true)) := Lib.hid (by unfold pairStep; simp [hkx, show ¬ x = ka by omega])
        go_wp2_with fail
        go_quiet (fail)
        go_wp2_with ((at_builtin; refine Hid.out ?_))
        refine Lib.hid ?_
        refine wpList_pushP rfl _ _ 23 rfl Try.underlying23 W0 _ _ out (ka, kb) (by rfl) (PRow.ext RO.out (extN _ _)) (XK.out.trans (extN _ _)) (by rfl) (by have := HLEN.out; omega) ?_
        intro v' w' h1 h2
        obtain ⟨q0', q1'⟩ := HQ.out w' h2
        have bk := BK.out.ext h2
        have b0' : w'.cell? ⟨w.heap.size, 0, none⟩ = some (.int .u32 ka) := bk.cell 0
        have H1 := Lib.hid h1
        have H2 := Lib.hid h2
        clear h1 h2 q0 q1 RO b0 b1 bk
        go_wp2_with fail
        go_quiet (fail)
        go_wp2_with ((at_builtin; refine Hid.out ?_))
        refine Lib.hid ?_
        refine wpList_pushP rfl _ _ 23 rfl Try.underlying23 W0 _ _ (out ++ [(ka, kb)]) (x, y) (by rfl) (PRow.ext H1.out (extN _ _)) (H2.out.trans (extN _ _)) (by rfl) (by have := HLEN.out; simp; omega) ?_
        intro v2 w2 h3 h4
        go_wp2_with fail
        go_roundw
        case rel => exact ⟨k + 1, out ++ [(ka, kb)] ++ [(x, y)], true, by omega, by go_num, rfl, by rw [HS.out, HF.out, hst.out], h3, h4⟩
        case measure => simp [intOf]; omega
      · by_cases he : x = ka
        · have hne : (x != ka) = false := by simp [he]
          have hst : Hid (pairStep (ka, kb) (out, dn) (x, y) = (out, dn)) := Lib.hid (by unfold pairStep; rw [if_neg hput]; simp [he])
          have t1 : decide (ka < x) = false := by simp; omega
          clear hput
          cases dn
          all_goals
            go_wp2_with fail
            go_quiet (fail)
            go_wp2_with fail
            go_quiet (fail)
            go_wp2_with fail
            go_roundw
            case rel => exact ⟨k + 1, out, _, by omega, by go_num, rfl, by rw [HS.out, HF.out, hst.out], PRow.ext RO.out (extN _ _), XK.out.trans (extN _ _)⟩
            case measure => simp [intOf]; omega
        · have hne : (x != ka) = true := by rw [bne_iff_ne]; exact he
          have hst : Hid (pairStep (ka, kb) (out, dn) (x, y) = (out ++ [(x, y)], dn)) := Lib.hid (by unfold pairStep; rw [if_neg hput]; simp [he])
          have HPU := Lib.hid hput
          clear hput
          cases dn
          · have t1 : decide (ka < x) = false := by simp; exact Int.not_lt.1 (fun hh => HPU.out ⟨rfl, hh⟩)
            go_wp2_with fail
            go_quiet (fail)
            go_wp2_with fail
            go_quiet (fail)
            go_wp2_with ((at_builtin; refine Hid.out ?_))
            refine Lib.hid ?_
            refine wpList_pushP rfl _ _ 23 rfl Try.underlying23 W0 _ _ out (x, y) (by rfl) (PRow.ext RO.out (extN _ _)) (XK.out.trans (extN _ _)) (by rfl) (by have := HLEN.out; omega) ?_
            intro v2 w2 h3 h4
            go_wp2_with fail
            go_roundw
            case rel => exact ⟨k + 1, out ++ [(x, y)], false, by omega, by go_num, rfl, by rw [HS.out, HF.out, hst.out], h3, h4⟩
            case measure => simp [intOf]; omega
          · go_wp2_with fail
            go_quiet (fail)
            go_wp2_with fail
            go_quiet (fail)
            go_wp2_with ((at_builtin; refine Hid.out ?_))
            refine Lib.hid ?_
            refine wpList_pushP rfl _ _ 23 rfl Try.underlying23 W0 _ _ out (x, y) (by rfl) (PRow.ext RO.out (extN _ _)) (XK.out.trans (extN _ _)) (by rfl) (by have := HLEN.out; omega) ?_
            intro v2 w2 h3 h4
            go_wp2_with fail
            go_roundw
            case rel => exact ⟨k + 1, out ++ [(x, y)], true, by omega, by go_num, rfl, by rw [HS.out, HF.out, hst.out], h3, h4⟩
            case measure => simp [intOf]; omega
    · have v1 : decide (k < n) = false := by simp; omega
      obtain rfl : n = k := by omega
      have hall : Hid (zs.foldl (pairStep (ka, kb)) ([], !there) = (out, dn)) := Lib.hid (by have := HF.out; rw [← HL.out, List.take_length] at this; exact this)
      cases dn
      · go_wp2_with ((at_builtin; refine Hid.out ?_))
        refine Lib.hid ?_
        refine wpList_pushP rfl _ _ 23 rfl Try.underlying23 W0 wr _ out (ka, kb) (by rfl) RO.out XK.out (by rfl) (by have := HLEN.out; omega) ?_
        intro v' w' h1 h2
        go_wp2_with fail
        go_ret
        exact ⟨v', rfl, by unfold pairsR; rw [hall.out]; exact owns_low h1 (by omega), E0.out.trans h2⟩
      · go_wp2_with fail
        go_ret
        exact ⟨_, rfl, by unfold pairsR; rw [hall.out]; exact owns_low RO.out (by omega), E0.out.trans XK.out⟩
end Go.Proofs.Ythbngenjcgclgaa
