/- A set that is added to; Flush. Conditions: those that each theorem names. -/
import Derived.Test.YtcelhllhdkminaaDev9
namespace Go.Proofs.Ytcelhllhdkminaa
open Go.ChangeShapes Go.WideShapes Go.ChangeAt Go.RowKit
set_option linter.unusedVariables false
theorem insert_of (w0 w : World) (v : Value) (g : Nat) (x : Int) (zs : List Int) (i : Nat) (hi : i ≤ zs.length) (hz : zs.length ≤ 1000000) (hr : Row w w0.heap.size 3 .i64 v zs) (ext : Ext w0 w) (hb : Blk w g 3 [.int .i64 x]) (hg : v.ownBlock ≠ some g) :
    Calls Try.prog 117 #[v, .int .i64 (i : Int), .slice (some ⟨g, 0, none⟩) 1 1] w (RowOnto w0 w v (insAt zs i x)) := by
  have hc : w.cell? ⟨g, 0, none⟩ = some (.int .i64 x) := by rw [hb.cell 0]; rfl
  by_cases h0 : zs = []
  · subst h0
    obtain rfl : i = 0 := by simpa using hi
    exact insert_empty w0 w v g x hr ext hc
  · have hl : 0 < zs.length := List.length_pos_iff.2 h0
    by_cases he : i = zs.length
    · subst he
      have := insert_end w0 w v g x zs hl hz hr ext hc
      unfold insAt
      rw [List.take_length, List.drop_length]
      exact this
    · exact insert_mid w0 w v g x zs i (by omega) hz hr ext hb hg
theorem bsearch_of (w : World) (B : Nat) (v : Value) (x : Int) (zs : List Int) (hz : zs.length ≤ 1000000) (hr : Row w B 3 .i64 v zs) (hs : zs.Pairwise (· ≤ ·)) :
    Calls Try.prog 116 #[v, .int .i64 x] w fun e w' => e = .returned (.tuple #[.int .i64 ((zs.countP (· < x) : Nat) : Int), .bool (zs.contains x)]) ∧ ∃ q, w' = w.drewN q := by
  by_cases h0 : zs = []
  · subst h0
    obtain ⟨A, c, rfl, _, _, _, _, _⟩ := (RowN.of_row hr).form (by decide)
    refine (bsearch_empty A c x w).mono ?_
    rintro e w' ⟨rfl, rfl⟩
    exact ⟨rfl, 0, rfl⟩
  · have hl : 0 < zs.length := List.length_pos_iff.2 h0
    obtain ⟨b, c, rfl, hlc, hcm, _, _⟩ := (RowN.of_row hr).at_ hl
    have h := Any.slices_BinarySearch_int laysNm225 b 0 zs.length c zs x w (Nat.le_refl _) (by omega) (fun j hj => by
      rw [Nat.zero_add]; exact (RowN.of_row hr).cell (by omega)) (by rw [List.take_length]; exact hs)
    rw [List.take_length] at h
    exact h
/-- A set with a word added. -/
def setAdd (l : List Int) (x : Int) : List Int := if l.contains x = true then l else insAt l (l.countP (· < x)) x
theorem drewN_heap (w : World) (q : Nat) : (w.drewN q).heap = w.heap := by
  induction q with
  | zero => rfl
  | succ q ih => exact ih
/-- What adding to a set leaves. -/
def Added (w0 w : World) (v : Value) (gf t : Nat) (x : Int) (zs : List Int) (e : Ending) (w' : World) : Prop :=
  (∃ u, e = .returned u) ∧ ((zs.contains x = true ∧ Ext w w') ∨ (zs.contains x = false ∧ ∃ v' w1, w' = w1.setCell ⟨gf, t, none⟩ v' ∧ Row w1 w0.heap.size 3 .i64 v' (insAt zs (zs.countP (· < x)) x) ∧ Ext w0 w1 ∧ (∀ g, g < w.heap.size → v.ownBlock ≠ some g → w1.heap[g]? = w.heap[g]? ∧ v'.ownBlock ≠ some g) ∧ w.heap.size ≤ w1.heap.size))
set_option maxRecDepth 100000 in
set_option maxHeartbeats 400000 in
theorem add_of (w0 w : World) (v : Value) (gf t : Nat) (x : Int) (zs : List Int) (hz : zs.length ≤ 1000000) (hs : zs.Pairwise (· ≤ ·)) (hr : Row w w0.heap.size 3 .i64 v zs) (ext : Ext w0 w) (hc : w.cell? ⟨gf, t, none⟩ = some v) (hfz : w.frozen? ⟨gf, t, none⟩ = false) (hgf : v.ownBlock ≠ some gf) :
    Calls Try.prog 103 #[.pointer (some ⟨gf, t, none⟩), .int .i64 x] w (Added w0 w v gf t x zs) := by
  obtain ⟨A, c, hv, _, _, _, _, _⟩ := (RowN.of_row hr).form (by decide)
  have hlt : gf < w.heap.size := World.block_lt_of_cell? w ⟨gf, t, none⟩ hc
  have hcnt : zs.countP (· < x) ≤ zs.length := List.countP_le_length
  have HB := Lib.hid (bsearch_of w w0.heap.size v x zs hz hr hs)
  have HI := Lib.hid (fun (W : World) (e : W.heap = w.heap) (xt : Ext w W) => insert_of w0 (W.alloc (.cells #[.int .i64 x] 3)) v W.heap.size x zs (zs.countP (· < x)) hcnt hz (hr.ext (xt.alloc _)) ((ext.trans xt).alloc _) (Blk.new W 3 [.int .i64 x]) (fun h => by
    have := (World.ownsRow.lt hr _ h).2
    rw [e] at this
    omega))
  have hv' : v = .slice A zs.length c := hv
  clear hv
  generalize hN : zs.length = n at *
  generalize hP : zs.countP (· < x) = pc at *
  generalize hQ : zs.contains x = qc at *
  have HP := Lib.hid hP
  have HQ := Lib.hid hQ
  clear hP hQ hN hr hs
  subst hv'
  go_enter Try.func103, Try.ntmps103
  go_wp2_with fail
  refine HB.out.mono ?_
  rintro e w1 ⟨rfl, q, hq⟩
  have e1 : w1.heap = w.heap := by rw [hq]; exact drewN_heap w q
  have x1 : Ext w w1 := by rw [hq]; exact drewN_ext w q
  clear hq HB
  cases qc with
  | true =>
    go_wp2_with fail
    go_end0
    exact ⟨⟨_, rfl⟩, Or.inl ⟨HQ.out, x1⟩⟩
  | false =>
    have hc1 : w1.cell? ⟨gf, t, none⟩ = some (.slice A n c) := by rw [← hc]; exact World.cell?_of_block (by rw [e1])
    have hi := HI.out w1 e1 x1
    have HIn := Lib.hid hi
    have HE1 := Lib.hid e1
    clear hi HI hc e1
    go_wp2_with fail
    refine HIn.out.mono ?_
    rintro e w2 ⟨v', rfl, h1, h2, h3, h4⟩
    have e1 := HE1.out
    have hb := h3 gf (by simp [e1]; omega) hgf
    have hc2 : ∃ u, w2.cell? ⟨gf, t, none⟩ = some u ∧ w2.frozen? ⟨gf, t, none⟩ = false := by
      have e2 : w2.heap[gf]? = w.heap[gf]? := by
        rw [hb.1, Below.heap_alloc w1 _ gf (by rw [e1]; exact hlt), e1]
      refine ⟨.slice A n c, ?_, ?_⟩
      · rw [← hc1]
        exact World.cell?_of_block (by rw [e2, e1])
      · rw [← hfz]
        simp [World.frozen?, e2]
    obtain ⟨u, hcu, hfu⟩ := hc2
    obtain ⟨A', c', hvr, _, _, _, _, _⟩ := (RowN.of_row h1).form (by decide)
    have H1 := Lib.hid h1
    have H3 := Lib.hid h3
    clear h1 h3 hb e1
    generalize hL : (insAt zs pc x).length = L at *
    clear hL
    subst hvr
    go_wp2_with fail
    go_end0
    have e1 := HE1.out
    refine ⟨⟨_, rfl⟩, Or.inr ⟨HQ.out, _, w2, rfl, ?_, h2, fun g hg hne => ?_, by simp [e1] at h4; omega⟩⟩
    · rw [HP.out]
      exact H1.out
    · obtain ⟨a1, a2⟩ := H3.out g (by simp [e1]; omega) hne
      exact ⟨by rw [a1, Below.heap_alloc w1 _ g (by rw [e1]; exact hg), e1], a2⟩
end Go.Proofs.Ytcelhllhdkminaa
