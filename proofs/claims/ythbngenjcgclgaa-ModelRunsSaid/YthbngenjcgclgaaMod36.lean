/- Layer 8: the document's keys. Conditions: those that each theorem names. -/
import Derived.Test.YthbngenjcgclgaaMod35
namespace Go.Proofs.Ythbngenjcgclgaa
open Go.ChangeShapes Go.WideShapes Go.ChangeAt Go.RowKit
set_option linter.unusedVariables false
/-- One round of the document's keys. -/
def keyStep (k : Int) (s : List Int × Bool) (x : Int) : List Int × Bool :=
  if s.2 = false ∧ k < x then ((if x = k then s.1 ++ [k] else s.1 ++ [k] ++ [x]), true) else ((if x = k then s.1 else s.1 ++ [x]), s.2)
def keysEnd (k : Int) (s : List Int × Bool) : List Int := if s.2 = true then s.1 else s.1 ++ [k]
def keysR (l : List Int) (k : Int) (there : Bool) : List Int := keysEnd k (l.foldl (keyStep k) ([], !there))
theorem keys_done (k : Int) : ∀ (l acc : List Int), l.foldl (keyStep k) (acc, true) = (acc ++ leftI (CutI k) l, true)
  | [], acc => by simp [leftI]
  | x :: l, acc => by
    have e : keyStep k (acc, true) x = ((if x = k then acc else acc ++ [x]), true) := by unfold keyStep; simp
    rw [List.foldl_cons, e]
    by_cases h : x = k
    · rw [if_pos h, keys_done k l acc]
      unfold leftI CutI
      simp [h]
    · rw [if_neg h, keys_done k l (acc ++ [x])]
      unfold leftI CutI
      simp [h]
theorem keys_put (k : Int) : ∀ (l acc : List Int), k ∉ l → keysEnd k (l.foldl (keyStep k) (acc, false)) = acc ++ sortI l k
  | [], acc, _ => by simp [keysEnd, sortI]
  | x :: l, acc, hn => by
    have hn' : k ≠ x ∧ k ∉ l := by simpa using hn
    have hx : ¬ x = k := fun e => hn'.1 e.symm
    rw [List.foldl_cons]
    by_cases h : k < x
    · have e : keyStep k (acc, false) x = (acc ++ [k] ++ [x], true) := by unfold keyStep; simp [h, hx]
      rw [e, keys_done]
      have e2 : leftI (CutI k) l = l := leftI_allI (fun p hp => by unfold CutI; simp; intro e; exact hn'.2 (by rw [← e]; exact hp))
      rw [e2]
      unfold keysEnd sortI
      rw [if_pos rfl, if_pos h]
      simp
    · have e : keyStep k (acc, false) x = (acc ++ [x], false) := by unfold keyStep; simp [h, hx]
      rw [e, keys_put k l _ hn'.2]
      conv => rhs; unfold sortI
      rw [if_neg h]
      simp
theorem keysR_put (l : List Int) (k : Int) (h : hasI l k = false) : keysR l k true = insI l (posI l k) k := by
  have hn : k ∉ l := fun hm => by rw [(hasI_mem l k).2 hm] at h; cases h
  rw [insI_sort]
  unfold keysR
  have := keys_put k l [] hn
  rw [List.nil_append] at this
  exact this
theorem keysR_cut (l : List Int) (k : Int) : keysR l k false = leftI (CutI k) l := by
  unfold keysR
  have := keys_done k l []
  rw [List.nil_append] at this
  show keysEnd k (l.foldl (keyStep k) ([], true)) = _
  rw [this]
  rfl
theorem fold_take {α β : Type} (f : β → α → β) (b : β) (l : List α) (d : α) (i : Nat) (hi : i < l.length) : (l.take (i + 1)).foldl f b = f ((l.take i).foldl f b) (l.getD i d) := by
  rw [List.take_succ_eq_append_getElem hi, List.foldl_append, List.getD_eq_getElem?_getD, List.getElem?_eq_getElem hi]
  rfl
theorem keyStep_len (k : Int) (s : List Int × Bool) (x : Int) : (keyStep k s x).1.length ≤ s.1.length + 2 := by
  unfold keyStep
  split
  · show (if x = k then s.1 ++ [k] else s.1 ++ [k] ++ [x]).length ≤ _
    split <;> simp
  · show (if x = k then s.1 else s.1 ++ [x]).length ≤ _
    split <;> simp
theorem keys_len (k : Int) (b : Bool) (l : List Int) : ∀ i, i ≤ l.length → ((l.take i).foldl (keyStep k) ([], b)).1.length ≤ 2 * i
  | 0, _ => by simp
  | i + 1, h => by
    rw [fold_take (keyStep k) ([], b) l 0 i (by omega)]
    have h1 := keys_len k b l i (by omega)
    have h2 := keyStep_len k ((l.take i).foldl (keyStep k) ([], b)) (l.getD i 0)
    omega
set_option maxRecDepth 100000 in
set_option maxHeartbeats 4000000 in
theorem keys_ok (w : World) (A : Option Addr) (n c : Nat) (zs : List Int) (key : Int) (there : Bool) (hl : zs.length = n) (hn : n ≤ 1000000) (h : Ints w .u32 A zs) :
    Calls Try.prog 19 #[.slice A n c, .int .u32 key, .bool there] w fun e w' => ∃ v', e = .returned v' ∧ IRow w' w.heap.size v' (keysR zs key there) ∧ Ext w w' := by
  have HP := Lib.hid h
  have HL := Lib.hid hl
  clear h hl
  go_enter Try.func19, Try.ntmps19
  go_wp2_with fail
  go_loopw [7, 8, 9] (fun v d i wr => ∃ (k : Nat) (out : List Int) (dn : Bool), k ≤ n ∧ i = .int .i64 k ∧ d = .bool dn ∧ (zs.take k).foldl (keyStep key) ([], !there) = (out, dn) ∧ Row wr w.heap.size 32 .u32 v out ∧ Ext w wr) (fun _ _ i _ => n - (intOf i).toNat)
  case atStart => exact ⟨0, [], !there, Nat.zero_le _, rfl, by cases there <;> rfl, rfl, Row.nil _ _ _ _, Ext.refl _⟩
  case round =>
    obtain ⟨k, out, dn, hk, rfl, rfl, hf, row, xk⟩ := hrel
    have hlen := keys_len key (!there) zs k (by rw [HL.out]; exact hk)
    rw [hf] at hlen
    simp only at hlen
    have HF := Lib.hid hf
    have RO := Lib.hid row
    have XK := Lib.hid xk
    have HLEN : Hid (out.length < 999999999) := Lib.hid (by omega)
    clear hf row xk hlen
    by_cases hlt : k < n
    · have v1 : decide (k < n) = true := by simp; omega
      have hll := HL.out
      obtain ⟨ad, hA, hbl, hc⟩ := (HP.out.ext XK.out) (by omega)
      have q0 := hc k (by omega)
      have HS := Lib.hid (fold_take (keyStep key) ([], !there) zs 0 k (by omega))
      generalize hz : zs.getD k 0 = x at *
      have HZ := Lib.hid hz
      clear hc hll
      subst hA
      have HQ : Hid (∀ W, Ext w W → W.cell? (ad.add k) = some (.int .u32 x)) := Lib.hid (fun W y => by
        obtain ⟨ad', e, _, hc⟩ := (HP.out.ext y) (by rw [HL.out]; omega)
        injection e with e
        subst e
        rw [hc k (by rw [HL.out]; exact hlt), hz])
      clear hz
      by_cases hput : dn = false ∧ key < x
      · obtain ⟨rfl, hkx⟩ := hput
        have t1 : decide (key < x) = true := by simpa using hkx
        have hne : (x != key) = true := by rw [bne_iff_ne]; omega
        have hst : Hid (keyStep key (out, false) x = (out ++ [key] ++ [x], true)) := Lib.hid (by unfold keyStep; simp [hkx, show ¬ x = key by omega])
        go_wp2_with ((at_builtin; refine Hid.out ?_))
        refine Lib.hid ?_
        refine wpList_push rfl _ _ 22 rfl 32 .u32 4 u32_info (by decide) Try.underlying22 w wr _ out key (by rfl) RO.out XK.out (by rfl) (by have := HLEN.out; omega) ?_
        intro v' w' h1 h2
        have q1 := HQ.out w' h2
        have H1 := Lib.hid h1
        have H2 := Lib.hid h2
        clear h1 h2 q0 RO
        go_wp2_with ((at_builtin; refine Hid.out ?_))
        refine Lib.hid ?_
        refine wpList_push rfl _ _ 22 rfl 32 .u32 4 u32_info (by decide) Try.underlying22 w w' _ (out ++ [key]) x (by rfl) H1.out H2.out (by rfl) (by have := HLEN.out; simp; omega) ?_
        intro v2 w2 h3 h4
        go_wp2_with fail
        go_roundw
        case rel => exact ⟨k + 1, out ++ [key] ++ [x], true, by omega, by go_num, rfl, by rw [HS.out, HF.out, hst.out], h3, h4⟩
        case measure => simp [intOf]; omega
      · by_cases he : x = key
        · have hne : (x != key) = false := by simp [he]
          have hst : Hid (keyStep key (out, dn) x = (out, dn)) := Lib.hid (by unfold keyStep; rw [if_neg hput]; simp [he])
          have t1 : decide (key < x) = false := by simp; omega
          cases dn
          · go_wp2_with fail
            go_roundw
            case rel => exact ⟨k + 1, out, false, by omega, by go_num, rfl, by rw [HS.out, HF.out, hst.out], RO.out, XK.out⟩
            case measure => simp [intOf]; omega
          · go_wp2_with fail
            go_roundw
            case rel => exact ⟨k + 1, out, true, by omega, by go_num, rfl, by rw [HS.out, HF.out, hst.out], RO.out, XK.out⟩
            case measure => simp [intOf]; omega
        · have hne : (x != key) = true := by rw [bne_iff_ne]; exact he
          have hst : Hid (keyStep key (out, dn) x = (out ++ [x], dn)) := Lib.hid (by unfold keyStep; rw [if_neg hput]; simp [he])
          cases dn
          · have t1 : decide (key < x) = false := by simp; exact Int.not_lt.1 (fun hh => hput ⟨rfl, hh⟩)
            go_wp2_with ((at_builtin; refine Hid.out ?_))
            refine Lib.hid ?_
            refine wpList_push rfl _ _ 22 rfl 32 .u32 4 u32_info (by decide) Try.underlying22 w wr _ out x (by rfl) RO.out XK.out (by rfl) (by have := HLEN.out; omega) ?_
            intro v2 w2 h3 h4
            go_wp2_with fail
            go_roundw
            case rel => exact ⟨k + 1, out ++ [x], false, by omega, by go_num, rfl, by rw [HS.out, HF.out, hst.out], h3, h4⟩
            case measure => simp [intOf]; omega
          · go_wp2_with ((at_builtin; refine Hid.out ?_))
            refine Lib.hid ?_
            refine wpList_push rfl _ _ 22 rfl 32 .u32 4 u32_info (by decide) Try.underlying22 w wr _ out x (by rfl) RO.out XK.out (by rfl) (by have := HLEN.out; omega) ?_
            intro v2 w2 h3 h4
            go_wp2_with fail
            go_roundw
            case rel => exact ⟨k + 1, out ++ [x], true, by omega, by go_num, rfl, by rw [HS.out, HF.out, hst.out], h3, h4⟩
            case measure => simp [intOf]; omega
    · have v1 : decide (k < n) = false := by simp; omega
      obtain rfl : n = k := by omega
      have hall : Hid (zs.foldl (keyStep key) ([], !there) = (out, dn)) := Lib.hid (by have := HF.out; rw [← HL.out, List.take_length] at this; exact this)
      cases dn
      · go_wp2_with ((at_builtin; refine Hid.out ?_))
        refine Lib.hid ?_
        refine wpList_push rfl _ _ 22 rfl 32 .u32 4 u32_info (by decide) Try.underlying22 w wr _ out key (by rfl) RO.out XK.out (by rfl) (by have := HLEN.out; omega) ?_
        intro v' w' h1 h2
        go_wp2_with fail
        go_ret
        exact ⟨v', rfl, by unfold keysR; rw [hall.out]; exact h1, h2⟩
      · go_wp2_with fail
        go_ret
        exact ⟨_, rfl, by unfold keysR; rw [hall.out]; exact RO.out, XK.out⟩
end Go.Proofs.Ythbngenjcgclgaa
