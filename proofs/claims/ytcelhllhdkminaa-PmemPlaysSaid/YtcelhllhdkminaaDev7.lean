/- A device made: slices.Clone of lines, over, New. Conditions: those that each theorem names. -/
import Derived.Test.YtcelhllhdkminaaDev6
import Derived.Laws.Cover3
namespace Go.Proofs.Ytcelhllhdkminaa
open Go.ChangeShapes Go.WideShapes Go.ChangeAt Go.RowKit
set_option linter.unusedVariables false
theorem eql_nil {P : Program} {t e : TypeId} (ht : P.underlying t = some (.slice e)) (A : Option Addr) (n c : Nat) (W : World) : (binOp .eql t (.slice A n c) (.slice none 0 0)).run P W = .ok (.bool A.isNone) W := by
  simp only [binOp]
  simp [run_equal_slice_nil W t e A n c ht]
set_option maxRecDepth 100000 in
set_option maxHeartbeats 400000 in
theorem cloneL_of (w : World) (ad : Addr) (n c : Nat) (zs : List Int) (hz : zs.length = n * 8) (hn : n ≤ 262144) (hA : Ints w .u64 (some ad) zs) (h0 : 0 < n) :
    Calls Try.prog 97 #[.slice (some ad) n c] w fun e w' => ∃ v, e = .returned v ∧ RowN w' w.heap.size 131 8 .u64 v n zs ∧ Ext w w' := by
  obtain ⟨ad', e, _, hc⟩ := hA (by omega)
  injection e with e
  subst e
  have HC := Lib.hid hc
  clear hc
  have hnil := fun W => eql_nil (P := Try.prog) (t := 114) Try.underlying114 (some ad) n c W
  rw [show (some ad).isNone = false from rfl] at hnil
  go_enter Try.func97, Try.ntmps97
  go_wp2_with ((at_builtin; refine Hid.out ?_))
  refine Lib.hid ?_
  refine wpList_appN rfl _ _ 114 rfl 131 .u64 8 64 (.agg z8) line_info rfl (by decide) (by decide) Try.underlying114 w _ _ 0 [] (by rfl) (by exact ⟨rfl, Or.inr ⟨w.heap.size, 0, #[], rfl, Nat.le_refl _, heap_alloc_new w _, Nat.le_refl _, Nat.zero_le _, rfl, rfl⟩⟩) (by exact (Ext.refl w).alloc _) ad n c zs (by rfl) hz (by intro j hj; rw [← HC.out j hj]; exact World.cell?_of_block (Below.heap_alloc w _ _ (by rw [add_block]; assumption))) (by omega) ?_
  intro v' w' h1 h2 h3 h4
  go_wp2_with fail
  go_ret
  rw [Nat.zero_add] at h1
  exact ⟨v', rfl, h1, h2⟩
/-- A device, out of its parts. -/
theorem mkDev {B : Nat} {X : World} {gd gk gs gf gw ck cs n T : Nat} {zs : List Int} (n0 : 0 < n) (n1 : n ≤ 262144) (T0 : 0 < T) (T1 : T ≤ 64) (lz : Lim zs 18446744073709551616)
    (hk : RowN X B 131 8 .u64 (.slice (some ⟨gk, 0, none⟩) n ck) n zs) (hs : RowN X B 131 8 .u64 (.slice (some ⟨gs, 0, none⟩) n cs) n zs) (hne : gk ≠ gs)
    (hf : Blk X gf 151 (List.replicate T (.slice none 0 0))) (bf : B ≤ gf) (hw : RowN X B 3 1 .i64 (.slice (some ⟨gw, 0, none⟩) n n) n (List.replicate n 0))
    (hd : Blk X gd 129 [.slice (some ⟨gk, 0, none⟩) n ck, .slice (some ⟨gs, 0, none⟩) n cs, .slice (some ⟨gf, 0, none⟩) T T, .slice (some ⟨gw, 0, none⟩) n n]) (bd : B ≤ gd) :
    IsDev B X ⟨gd, gk, gs, gf, gw, ck, cs, List.replicate T (.slice none 0 0)⟩ ⟨n, T, zs, zs, List.replicate n 0, List.replicate T []⟩ := by
  have hg : ∀ t, t < T → (List.replicate T (Value.slice none 0 0)).getD t undef = .slice none 0 0 := fun t ht => by simp [List.getD_eq_getElem?_getD, ht]
  exact {
    n0 := n0, n1 := n1, T0 := T0, T1 := T1
    lits := by simp
    lfl := by simp
    bd := bd, bf := bf, dev := hd, kept := hk, seen := hs, ks := hne, flb := hf
    fl := fun t ht => by
      have h2 : (List.replicate T ([] : List Int)).getD t [] = [] := by
        have ht' : t < T := ht
        simp [List.getD_eq_getElem?_getD, ht']
      show Row X B 3 .i64 ((List.replicate T (Value.slice none 0 0)).getD t undef) ((List.replicate T ([] : List Int)).getD t [])
      rw [hg t ht, h2]
      exact Row.nil _ _ _ _
    writes := hw
    apart := fun t t' g ht _ _ h => by
      have h' : ((List.replicate T (Value.slice none 0 0)).getD t undef).ownBlock = some g := h
      rw [hg t ht] at h'
      cases h'
    wapart := fun t ht => by
      show ((List.replicate T (Value.slice none 0 0)).getD t undef).ownBlock ≠ some gw
      rw [hg t ht]
      simp [Value.ownBlock]
    lk := lz, ls := lz }
theorem make_sets (T : Nat) (hT : T ≤ 64) (W : World) :
    (Instr.makeSlice 127 (.int .i64 (T : Int)) (.int .i64 (T : Int))).run Try.prog W = .ok (.slice (some ⟨W.heap.size, 0, none⟩) T T) (W.alloc (.cells (List.replicate T (Value.slice none 0 0)).toArray 151)) := by
  obtain ⟨i, hi, hz0, hz1, hz2⟩ := info_parts set_info
  have h := run_makeInts (k := .u64) Try.underlying127 hi hz0 hz1 T T (Nat.le_refl _) (by rw [hz2]; omega) (by unfold maxLen; omega) W
  rw [h]
  have e : madeCells (Value.agg #[Value.slice none 0 0]).cells (T * 1) = (List.replicate T (Value.slice none 0 0)).toArray := by
    show madeCells #[Value.slice none 0 0] (T * 1) = _
    unfold madeCells
    apply Array.ext
    · simp
    · intro j h1 h2
      simp [Nat.mod_one]
  rw [e]
/-- What hands back a device. -/
def DevMade (B : Nat) (w : World) (s : DSt) (gk : Nat) (r : Ending) (w' : World) : Prop := ∃ D : DevB, r = .returned D.ptr ∧ IsDev B w' D s ∧ Ext w w' ∧ ∀ g, D.foot g → g = gk ∨ w.heap.size ≤ g
set_option maxRecDepth 100000 in
set_option maxHeartbeats 2000000 in
theorem over_of (B : Nat) (w : World) (gk ck n T : Nat) (zs : List Int) (n0 : 0 < n) (n1 : n ≤ 262144) (T0 : 0 < T) (T1 : T ≤ 64) (lz : Lim zs 18446744073709551616) (hB : B ≤ w.heap.size)
    (hk : RowN w B 131 8 .u64 (.slice (some ⟨gk, 0, none⟩) n ck) n zs) :
    Calls Try.prog 68 #[.slice (some ⟨gk, 0, none⟩) n ck, .int .i64 (T : Int)] w (DevMade B w ⟨n, T, zs, zs, List.replicate n 0, List.replicate T []⟩ gk) := by
  have hI : Ints w .u64 (some ⟨gk, 0, none⟩) zs := by
    obtain ⟨A, c, hv, _, _, hI, _⟩ := hk.form (by decide)
    injection hv with h1
    rw [h1]
    exact hI
  have HCl := Lib.hid (fun W (x : Ext w W) => cloneL_of W ⟨gk, 0, none⟩ n ck zs hk.len n1 (hI.ext x) n0)
  have hmS := fun W => make_sets T T1 W
  have hmI := fun W => make_ints n n (Nat.le_refl _) (by omega) W
  have HK := Lib.hid hk
  clear hk hI
  generalize hS : (List.replicate T (Value.slice none 0 0)).toArray = MS at *
  have HS := Lib.hid hS
  clear hS
  generalize hMI : madeCells #[Value.int .i64 0] (n * 1) = MI at *
  have HMI := Lib.hid hMI
  clear hMI
  go_enter Try.func68, Try.ntmps68
  go_wp2_with fail
  go_region_with (go_at_call 97; refine (HCl.out _ (by first | exact (Ext.refl w).drew | exact ((Ext.refl w).alloc _).drew | exact (((Ext.refl w).alloc _).alloc _).drew)).mono ?_; rintro e w1 ⟨vC, rfl, rC, xC⟩; obtain ⟨gs, cs, hvC, hsc, _, hgs, hgl⟩ := rC.at_ n0; subst hvC; have HrC := Lib.hid rC; clear rC)
  all_goals go_wp2_with fail
  · go_ret
    have xwp : Ext w w.drew := (Ext.refl w).drew
    have x1X : Ext w1 (((w1.alloc (.cells MS 151)).alloc (.cells MI 3)).alloc (.cells [.slice (some ⟨gk, 0, none⟩) n ck, .slice (some ⟨gs, 0, none⟩) n cs, .slice (some ⟨w1.heap.size, 0, none⟩) T T, .slice (some ⟨w1.heap.size + 1, 0, none⟩) n n].toArray 129)) := (((Ext.refl w1).alloc _).alloc _).alloc _
    have xw1 : Ext w w1 := xwp.trans xC
    have xwX := xw1.trans x1X
    have s1 := xw1.size
    have hf0 := Blk.new w1 151 (List.replicate T (Value.slice none 0 0))
    rw [HS.out] at hf0
    have hf := hf0.ext (show Ext _ (((w1.alloc (.cells MS 151)).alloc (.cells MI 3)).alloc (.cells [.slice (some ⟨gk, 0, none⟩) n ck, .slice (some ⟨gs, 0, none⟩) n cs, .slice (some ⟨w1.heap.size, 0, none⟩) T T, .slice (some ⟨w1.heap.size + 1, 0, none⟩) n n].toArray 129)) from ((Ext.refl _).alloc _).alloc _)
    have hw0 := RowN.made (w1.alloc (.cells MS 151)) 3 1 n n .i64 #[Value.int .i64 0] one_zero rfl (by decide) (Nat.le_refl _) (by unfold maxLen; omega)
    rw [HMI.out, Nat.mul_one] at hw0
    have hw := (hw0.mono (B' := B) (by first | omega | (simp; omega))).ext (show Ext _ (((w1.alloc (.cells MS 151)).alloc (.cells MI 3)).alloc (.cells [.slice (some ⟨gk, 0, none⟩) n ck, .slice (some ⟨gs, 0, none⟩) n cs, .slice (some ⟨w1.heap.size, 0, none⟩) T T, .slice (some ⟨w1.heap.size + 1, 0, none⟩) n n].toArray 129)) from (Ext.refl _).alloc _)
    simp only [World.size_alloc] at hw
    have hgk := (World.ownsRow.lt HK.out gk rfl).2
    have hgs' : w.heap.size ≤ gs := by have := xwp.size; omega
    have hd := Blk.new ((w1.alloc (.cells MS 151)).alloc (.cells MI 3)) 129 [.slice (some ⟨gk, 0, none⟩) n ck, .slice (some ⟨gs, 0, none⟩) n cs, .slice (some ⟨w1.heap.size, 0, none⟩) T T, .slice (some ⟨w1.heap.size + 1, 0, none⟩) n n]
    simp only [World.size_alloc] at hd
    refine ⟨⟨w1.heap.size + 1 + 1, gk, gs, w1.heap.size, w1.heap.size + 1, ck, cs, List.replicate T (.slice none 0 0)⟩, rfl, mkDev n0 n1 T0 T1 lz (HK.out.ext xwX) ((HrC.out.mono (by have := xwp.size; omega)).ext x1X) (by omega) hf (by omega) hw hd (by omega), xwX, fun g hg => ?_⟩
    rcases hg with h | h | h | h | h | ⟨t', ht', h⟩
    · exact Or.inr (by have h' : g = w1.heap.size + 1 + 1 := h; omega)
    · exact Or.inl h
    · exact Or.inr (by have h' : g = gs := h; omega)
    · exact Or.inr (by have h' : g = w1.heap.size := h; omega)
    · exact Or.inr (by have h' : g = w1.heap.size + 1 := h; omega)
    · have ht2 : t' < T := by simpa using ht'
      have h' : ((List.replicate T (Value.slice none 0 0)).getD t' undef).ownBlock = some g := h
      rw [show (List.replicate T (Value.slice none 0 0)).getD t' undef = .slice none 0 0 from by simp [List.getD_eq_getElem?_getD, ht2]] at h'
      cases h'
  · go_ret
    have xwp : Ext w w.drew := (Ext.refl w).drew
    have x1X : Ext w1 (((w1.alloc (.cells MI 3)).alloc (.cells MS 151)).alloc (.cells [.slice (some ⟨gk, 0, none⟩) n ck, .slice (some ⟨gs, 0, none⟩) n cs, .slice (some ⟨w1.heap.size + 1, 0, none⟩) T T, .slice (some ⟨w1.heap.size, 0, none⟩) n n].toArray 129)) := (((Ext.refl w1).alloc _).alloc _).alloc _
    have xw1 : Ext w w1 := xwp.trans xC
    have xwX := xw1.trans x1X
    have s1 := xw1.size
    have hf0 := Blk.new (w1.alloc (.cells MI 3)) 151 (List.replicate T (Value.slice none 0 0))
    rw [HS.out] at hf0
    have hf := hf0.ext (show Ext _ (((w1.alloc (.cells MI 3)).alloc (.cells MS 151)).alloc (.cells [.slice (some ⟨gk, 0, none⟩) n ck, .slice (some ⟨gs, 0, none⟩) n cs, .slice (some ⟨w1.heap.size + 1, 0, none⟩) T T, .slice (some ⟨w1.heap.size, 0, none⟩) n n].toArray 129)) from (Ext.refl _).alloc _)
    simp only [World.size_alloc] at hf
    have hw0 := RowN.made w1 3 1 n n .i64 #[Value.int .i64 0] one_zero rfl (by decide) (Nat.le_refl _) (by unfold maxLen; omega)
    rw [HMI.out, Nat.mul_one] at hw0
    have hw := (hw0.mono (B' := B) (by first | omega | (simp; omega))).ext (show Ext _ (((w1.alloc (.cells MI 3)).alloc (.cells MS 151)).alloc (.cells [.slice (some ⟨gk, 0, none⟩) n ck, .slice (some ⟨gs, 0, none⟩) n cs, .slice (some ⟨w1.heap.size + 1, 0, none⟩) T T, .slice (some ⟨w1.heap.size, 0, none⟩) n n].toArray 129)) from ((Ext.refl _).alloc _).alloc _)
    have hgk := (World.ownsRow.lt HK.out gk rfl).2
    have hgs' : w.heap.size ≤ gs := by have := xwp.size; omega
    have hd := Blk.new ((w1.alloc (.cells MI 3)).alloc (.cells MS 151)) 129 [.slice (some ⟨gk, 0, none⟩) n ck, .slice (some ⟨gs, 0, none⟩) n cs, .slice (some ⟨w1.heap.size + 1, 0, none⟩) T T, .slice (some ⟨w1.heap.size, 0, none⟩) n n]
    simp only [World.size_alloc] at hd
    refine ⟨⟨w1.heap.size + 1 + 1, gk, gs, w1.heap.size + 1, w1.heap.size, ck, cs, List.replicate T (.slice none 0 0)⟩, rfl, mkDev n0 n1 T0 T1 lz (HK.out.ext xwX) ((HrC.out.mono (by have := xwp.size; omega)).ext x1X) (by omega) hf (by omega) hw hd (by omega), xwX, fun g hg => ?_⟩
    rcases hg with h | h | h | h | h | ⟨t', ht', h⟩
    · exact Or.inr (by have h' : g = w1.heap.size + 1 + 1 := h; omega)
    · exact Or.inl h
    · exact Or.inr (by have h' : g = gs := h; omega)
    · exact Or.inr (by have h' : g = w1.heap.size + 1 := h; omega)
    · exact Or.inr (by have h' : g = w1.heap.size := h; omega)
    · have ht2 : t' < T := by simpa using ht'
      have h' : ((List.replicate T (Value.slice none 0 0)).getD t' undef).ownBlock = some g := h
      rw [show (List.replicate T (Value.slice none 0 0)).getD t' undef = .slice none 0 0 from by simp [List.getD_eq_getElem?_getD, ht2]] at h'
      cases h'
  · go_ret
    have xwp : Ext w (w.alloc (.cells MS 151)).drew := ((Ext.refl w).alloc _).drew
    have x1X : Ext w1 ((w1.alloc (.cells MI 3)).alloc (.cells [.slice (some ⟨gk, 0, none⟩) n ck, .slice (some ⟨gs, 0, none⟩) n cs, .slice (some ⟨w.heap.size, 0, none⟩) T T, .slice (some ⟨w1.heap.size, 0, none⟩) n n].toArray 129)) := ((Ext.refl w1).alloc _).alloc _
    have xw1 : Ext w w1 := xwp.trans xC
    have xwX := xw1.trans x1X
    have s1 := xw1.size
    have hf0 := Blk.new w 151 (List.replicate T (Value.slice none 0 0))
    rw [HS.out] at hf0
    have hf := hf0.ext (show Ext _ ((w1.alloc (.cells MI 3)).alloc (.cells [.slice (some ⟨gk, 0, none⟩) n ck, .slice (some ⟨gs, 0, none⟩) n cs, .slice (some ⟨w.heap.size, 0, none⟩) T T, .slice (some ⟨w1.heap.size, 0, none⟩) n n].toArray 129)) from ((Ext.refl _).drew.trans xC).trans x1X)
    have hw0 := RowN.made w1 3 1 n n .i64 #[Value.int .i64 0] one_zero rfl (by decide) (Nat.le_refl _) (by unfold maxLen; omega)
    rw [HMI.out, Nat.mul_one] at hw0
    have hw := (hw0.mono (B' := B) (by first | omega | (simp; omega))).ext (show Ext _ ((w1.alloc (.cells MI 3)).alloc (.cells [.slice (some ⟨gk, 0, none⟩) n ck, .slice (some ⟨gs, 0, none⟩) n cs, .slice (some ⟨w.heap.size, 0, none⟩) T T, .slice (some ⟨w1.heap.size, 0, none⟩) n n].toArray 129)) from (Ext.refl _).alloc _)
    have hgk := (World.ownsRow.lt HK.out gk rfl).2
    have hgs' : w.heap.size ≤ gs := by have := xwp.size; omega
    have hd := Blk.new (w1.alloc (.cells MI 3)) 129 [.slice (some ⟨gk, 0, none⟩) n ck, .slice (some ⟨gs, 0, none⟩) n cs, .slice (some ⟨w.heap.size, 0, none⟩) T T, .slice (some ⟨w1.heap.size, 0, none⟩) n n]
    simp only [World.size_alloc] at hd
    refine ⟨⟨w1.heap.size + 1, gk, gs, w.heap.size, w1.heap.size, ck, cs, List.replicate T (.slice none 0 0)⟩, rfl, mkDev n0 n1 T0 T1 lz (HK.out.ext xwX) ((HrC.out.mono (by have := xwp.size; omega)).ext x1X) (by omega) hf (by omega) hw hd (by omega), xwX, fun g hg => ?_⟩
    rcases hg with h | h | h | h | h | ⟨t', ht', h⟩
    · exact Or.inr (by have h' : g = w1.heap.size + 1 := h; omega)
    · exact Or.inl h
    · exact Or.inr (by have h' : g = gs := h; omega)
    · exact Or.inr (by have h' : g = w.heap.size := h; omega)
    · exact Or.inr (by have h' : g = w1.heap.size := h; omega)
    · have ht2 : t' < T := by simpa using ht'
      have h' : ((List.replicate T (Value.slice none 0 0)).getD t' undef).ownBlock = some g := h
      rw [show (List.replicate T (Value.slice none 0 0)).getD t' undef = .slice none 0 0 from by simp [List.getD_eq_getElem?_getD, ht2]] at h'
      cases h'
  · go_ret
    have xwp : Ext w ((w.alloc (.cells MS 151)).alloc (.cells MI 3)).drew := (((Ext.refl w).alloc _).alloc _).drew
    have x1X : Ext w1 (w1.alloc (.cells [.slice (some ⟨gk, 0, none⟩) n ck, .slice (some ⟨gs, 0, none⟩) n cs, .slice (some ⟨w.heap.size, 0, none⟩) T T, .slice (some ⟨w.heap.size + 1, 0, none⟩) n n].toArray 129)) := (Ext.refl w1).alloc _
    have xw1 : Ext w w1 := xwp.trans xC
    have xwX := xw1.trans x1X
    have s1 := xw1.size
    have hf0 := Blk.new w 151 (List.replicate T (Value.slice none 0 0))
    rw [HS.out] at hf0
    have hf := hf0.ext (show Ext _ (w1.alloc (.cells [.slice (some ⟨gk, 0, none⟩) n ck, .slice (some ⟨gs, 0, none⟩) n cs, .slice (some ⟨w.heap.size, 0, none⟩) T T, .slice (some ⟨w.heap.size + 1, 0, none⟩) n n].toArray 129)) from (((Ext.refl _).alloc _).drew.trans xC).trans x1X)
    have hw0 := RowN.made (w.alloc (.cells MS 151)) 3 1 n n .i64 #[Value.int .i64 0] one_zero rfl (by decide) (Nat.le_refl _) (by unfold maxLen; omega)
    rw [HMI.out, Nat.mul_one] at hw0
    have hw := (hw0.mono (B' := B) (by first | omega | (simp; omega))).ext (show Ext _ (w1.alloc (.cells [.slice (some ⟨gk, 0, none⟩) n ck, .slice (some ⟨gs, 0, none⟩) n cs, .slice (some ⟨w.heap.size, 0, none⟩) T T, .slice (some ⟨w.heap.size + 1, 0, none⟩) n n].toArray 129)) from ((Ext.refl _).drew.trans xC).trans x1X)
    simp only [World.size_alloc] at hw
    have hgk := (World.ownsRow.lt HK.out gk rfl).2
    have hgs' : w.heap.size ≤ gs := by have := xwp.size; omega
    have hd := Blk.new w1 129 [.slice (some ⟨gk, 0, none⟩) n ck, .slice (some ⟨gs, 0, none⟩) n cs, .slice (some ⟨w.heap.size, 0, none⟩) T T, .slice (some ⟨w.heap.size + 1, 0, none⟩) n n]
    refine ⟨⟨w1.heap.size, gk, gs, w.heap.size, w.heap.size + 1, ck, cs, List.replicate T (.slice none 0 0)⟩, rfl, mkDev n0 n1 T0 T1 lz (HK.out.ext xwX) ((HrC.out.mono (by have := xwp.size; omega)).ext x1X) (by omega) hf (by omega) hw hd (by omega), xwX, fun g hg => ?_⟩
    rcases hg with h | h | h | h | h | ⟨t', ht', h⟩
    · exact Or.inr (by have h' : g = w1.heap.size := h; omega)
    · exact Or.inl h
    · exact Or.inr (by have h' : g = gs := h; omega)
    · exact Or.inr (by have h' : g = w.heap.size := h; omega)
    · exact Or.inr (by have h' : g = w.heap.size + 1 := h; omega)
    · have ht2 : t' < T := by simpa using ht'
      have h' : ((List.replicate T (Value.slice none 0 0)).getD t' undef).ownBlock = some g := h
      rw [show (List.replicate T (Value.slice none 0 0)).getD t' undef = .slice none 0 0 from by simp [List.getD_eq_getElem?_getD, ht2]] at h'
      cases h'
  · go_ret
    have xwp : Ext w (w.alloc (.cells MI 3)).drew := ((Ext.refl w).alloc _).drew
    have x1X : Ext w1 ((w1.alloc (.cells MS 151)).alloc (.cells [.slice (some ⟨gk, 0, none⟩) n ck, .slice (some ⟨gs, 0, none⟩) n cs, .slice (some ⟨w1.heap.size, 0, none⟩) T T, .slice (some ⟨w.heap.size, 0, none⟩) n n].toArray 129)) := ((Ext.refl w1).alloc _).alloc _
    have xw1 : Ext w w1 := xwp.trans xC
    have xwX := xw1.trans x1X
    have s1 := xw1.size
    have hf0 := Blk.new w1 151 (List.replicate T (Value.slice none 0 0))
    rw [HS.out] at hf0
    have hf := hf0.ext (show Ext _ ((w1.alloc (.cells MS 151)).alloc (.cells [.slice (some ⟨gk, 0, none⟩) n ck, .slice (some ⟨gs, 0, none⟩) n cs, .slice (some ⟨w1.heap.size, 0, none⟩) T T, .slice (some ⟨w.heap.size, 0, none⟩) n n].toArray 129)) from (Ext.refl _).alloc _)
    have hw0 := RowN.made w 3 1 n n .i64 #[Value.int .i64 0] one_zero rfl (by decide) (Nat.le_refl _) (by unfold maxLen; omega)
    rw [HMI.out, Nat.mul_one] at hw0
    have hw := (hw0.mono (B' := B) (by first | omega | (simp; omega))).ext (show Ext _ ((w1.alloc (.cells MS 151)).alloc (.cells [.slice (some ⟨gk, 0, none⟩) n ck, .slice (some ⟨gs, 0, none⟩) n cs, .slice (some ⟨w1.heap.size, 0, none⟩) T T, .slice (some ⟨w.heap.size, 0, none⟩) n n].toArray 129)) from ((Ext.refl _).drew.trans xC).trans x1X)
    have hgk := (World.ownsRow.lt HK.out gk rfl).2
    have hgs' : w.heap.size ≤ gs := by have := xwp.size; omega
    have hd := Blk.new (w1.alloc (.cells MS 151)) 129 [.slice (some ⟨gk, 0, none⟩) n ck, .slice (some ⟨gs, 0, none⟩) n cs, .slice (some ⟨w1.heap.size, 0, none⟩) T T, .slice (some ⟨w.heap.size, 0, none⟩) n n]
    simp only [World.size_alloc] at hd
    refine ⟨⟨w1.heap.size + 1, gk, gs, w1.heap.size, w.heap.size, ck, cs, List.replicate T (.slice none 0 0)⟩, rfl, mkDev n0 n1 T0 T1 lz (HK.out.ext xwX) ((HrC.out.mono (by have := xwp.size; omega)).ext x1X) (by omega) hf (by omega) hw hd (by omega), xwX, fun g hg => ?_⟩
    rcases hg with h | h | h | h | h | ⟨t', ht', h⟩
    · exact Or.inr (by have h' : g = w1.heap.size + 1 := h; omega)
    · exact Or.inl h
    · exact Or.inr (by have h' : g = gs := h; omega)
    · exact Or.inr (by have h' : g = w1.heap.size := h; omega)
    · exact Or.inr (by have h' : g = w.heap.size := h; omega)
    · have ht2 : t' < T := by simpa using ht'
      have h' : ((List.replicate T (Value.slice none 0 0)).getD t' undef).ownBlock = some g := h
      rw [show (List.replicate T (Value.slice none 0 0)).getD t' undef = .slice none 0 0 from by simp [List.getD_eq_getElem?_getD, ht2]] at h'
      cases h'
  · go_ret
    have xwp : Ext w ((w.alloc (.cells MI 3)).alloc (.cells MS 151)).drew := (((Ext.refl w).alloc _).alloc _).drew
    have x1X : Ext w1 (w1.alloc (.cells [.slice (some ⟨gk, 0, none⟩) n ck, .slice (some ⟨gs, 0, none⟩) n cs, .slice (some ⟨w.heap.size + 1, 0, none⟩) T T, .slice (some ⟨w.heap.size, 0, none⟩) n n].toArray 129)) := (Ext.refl w1).alloc _
    have xw1 : Ext w w1 := xwp.trans xC
    have xwX := xw1.trans x1X
    have s1 := xw1.size
    have hf0 := Blk.new (w.alloc (.cells MI 3)) 151 (List.replicate T (Value.slice none 0 0))
    rw [HS.out] at hf0
    have hf := hf0.ext (show Ext _ (w1.alloc (.cells [.slice (some ⟨gk, 0, none⟩) n ck, .slice (some ⟨gs, 0, none⟩) n cs, .slice (some ⟨w.heap.size + 1, 0, none⟩) T T, .slice (some ⟨w.heap.size, 0, none⟩) n n].toArray 129)) from ((Ext.refl _).drew.trans xC).trans x1X)
    simp only [World.size_alloc] at hf
    have hw0 := RowN.made w 3 1 n n .i64 #[Value.int .i64 0] one_zero rfl (by decide) (Nat.le_refl _) (by unfold maxLen; omega)
    rw [HMI.out, Nat.mul_one] at hw0
    have hw := (hw0.mono (B' := B) (by first | omega | (simp; omega))).ext (show Ext _ (w1.alloc (.cells [.slice (some ⟨gk, 0, none⟩) n ck, .slice (some ⟨gs, 0, none⟩) n cs, .slice (some ⟨w.heap.size + 1, 0, none⟩) T T, .slice (some ⟨w.heap.size, 0, none⟩) n n].toArray 129)) from (((Ext.refl _).alloc _).drew.trans xC).trans x1X)
    have hgk := (World.ownsRow.lt HK.out gk rfl).2
    have hgs' : w.heap.size ≤ gs := by have := xwp.size; omega
    have hd := Blk.new w1 129 [.slice (some ⟨gk, 0, none⟩) n ck, .slice (some ⟨gs, 0, none⟩) n cs, .slice (some ⟨w.heap.size + 1, 0, none⟩) T T, .slice (some ⟨w.heap.size, 0, none⟩) n n]
    refine ⟨⟨w1.heap.size, gk, gs, w.heap.size + 1, w.heap.size, ck, cs, List.replicate T (.slice none 0 0)⟩, rfl, mkDev n0 n1 T0 T1 lz (HK.out.ext xwX) ((HrC.out.mono (by have := xwp.size; omega)).ext x1X) (by omega) hf (by omega) hw hd (by omega), xwX, fun g hg => ?_⟩
    rcases hg with h | h | h | h | h | ⟨t', ht', h⟩
    · exact Or.inr (by have h' : g = w1.heap.size := h; omega)
    · exact Or.inl h
    · exact Or.inr (by have h' : g = gs := h; omega)
    · exact Or.inr (by have h' : g = w.heap.size + 1 := h; omega)
    · exact Or.inr (by have h' : g = w.heap.size := h; omega)
    · have ht2 : t' < T := by simpa using ht'
      have h' : ((List.replicate T (Value.slice none 0 0)).getD t' undef).ownBlock = some g := h
      rw [show (List.replicate T (Value.slice none 0 0)).getD t' undef = .slice none 0 0 from by simp [List.getD_eq_getElem?_getD, ht2]] at h'
      cases h'
end Go.Proofs.Ytcelhllhdkminaa
