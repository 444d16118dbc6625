/- The document's device: Open. Conditions: those that each theorem names. -/
import Derived.Test.YtcelhllhdkminaaRef1
import Derived.IntWalk
namespace Go.Proofs.Ytcelhllhdkminaa
open Go.ChangeShapes Go.WideShapes Go.ChangeAt Go.RowKit
set_option linter.unusedVariables false
/-- Where the document's device lies. -/
structure RefB where
  g : Nat
  vk : Value
  vs : Value
  gw : Nat
  vf : Value
  rows : List Nat
def RefB.foot (R : RefB) (b : Nat) : Prop := b = R.g ∨ R.vk.ownBlock = some b ∨ R.vs.ownBlock = some b ∨ b = R.gw ∨ R.vf.ownBlock = some b ∨ b ∈ R.rows
def RefB.ptr (R : RefB) : Value := .pointer (some ⟨R.g, 0, none⟩)
def flags (n : Nat) (f : Nat → Bool) : List Value := (List.range n).map fun p => .bool (f p)
structure IsRef (B : Nat) (w : World) (R : RefB) (n : Nat) (kept seen writes : List Int) (fl : Nat → Nat → Bool) : Prop where
  blk : Blk w R.g 43 [R.vk, R.vs, .slice (some ⟨R.gw, 0, none⟩) n n, R.vf]
  kept : Row w B 31 .u64 R.vk kept
  seen : Row w B 31 .u64 R.vs seen
  writes : Row w B 3 .i64 (.slice (some ⟨R.gw, 0, none⟩) n n) writes
  flr : RowE w B 125 R.vf (R.rows.map fun b => .slice (some ⟨b, 0, none⟩) n n)
  row : ∀ t, t < R.rows.length → Blk w (R.rows.getD t 0) 4 (flags n (fl t))
  nd : R.rows.Nodup
  ks : ∀ b, R.vk.ownBlock = some b → R.vs.ownBlock ≠ some b
  bg : B ≤ R.g
  br : ∀ b ∈ R.rows, B ≤ b
def RefNew (w : World) (T m : Nat) (zs : List Int) (e : Ending) (w' : World) : Prop := ∃ R : RefB, e = .returned R.ptr ∧ R.rows.length = T ∧ IsRef w.heap.size w' R m zs zs (List.replicate m 0) (fun _ _ => false) ∧ Ext w w'
theorem flags_no (n : Nat) : flags n (fun _ => false) = List.replicate n (.bool false) := by
  unfold flags
  apply List.ext_getElem
  · simp
  · intro i h1 h2; simp
theorem RowE.blk {w : World} {B g : Nat} {e t : TypeId} {v : Value} {us cs : List Value} (h : RowE w B e v us) (hb : Blk w g t cs) (hne : e ≠ t) : v.ownBlock ≠ some g := by
  rcases h.2 with ⟨rfl, _⟩ | ⟨g', cap, cur, rfl, _, hh, _⟩
  · simp [Value.ownBlock]
  · intro he
    have : g' = g := by simpa [Value.ownBlock] using he
    subst this
    unfold Blk at hb
    rw [hb] at hh
    injection hh with hh
    injection hh with _ h2
    exact hne h2.symm
theorem Row.blk {w : World} {B g : Nat} {e t : TypeId} {k : IntKind} {v : Value} {zs : List Int} {cs : List Value} (h : Row w B e k v zs) (hb : Blk w g t cs) (hne : e ≠ t) : v.ownBlock ≠ some g := hb.ne_row (RowN.of_row h) hne
theorem Row.row {w : World} {B B' : Nat} {e e' : TypeId} {k : IntKind} {v v' : Value} {zs : List Int} {us : List Value} (h : Row w B e k v zs) (h' : RowE w B' e' v' us) (hne : e ≠ e') : ∀ g, v.ownBlock = some g → v'.ownBlock ≠ some g := by
  intro g hg hg'
  rcases h.2 with ⟨rfl, _⟩ | ⟨g1, cap, cur, rfl, _, hh, _⟩
  · cases hg
  rcases h'.2 with ⟨rfl, _⟩ | ⟨g2, cap', cur', rfl, _, hh', _⟩
  · cases hg'
  have e1 : g1 = g := by simpa [Value.ownBlock] using hg
  have e2 : g2 = g := by simpa [Value.ownBlock] using hg'
  subst e1 e2
  rw [hh] at hh'
  injection hh' with hh'
  injection hh' with _ h2
  exact hne h2
theorem Row.row2 {w : World} {B B' : Nat} {e e' : TypeId} {k k' : IntKind} {v v' : Value} {zs zs' : List Int} (h : Row w B e k v zs) (h' : Row w B' e' k' v' zs') (hne : e ≠ e') : ∀ g, v.ownBlock = some g → v'.ownBlock ≠ some g :=
  Row.row h (us := zs'.map (Value.int k')) (by unfold RowE; rw [List.length_map]; exact h') hne
theorem Lays.done {w0 w : World} {g : Nat} {vk vs : Value} {zs : List Int} (hL : Lays w0 w g vk vs zs zs) (m : Nat) (hm : m ≤ 1000000) :
    IsRef w0.heap.size ((w.setCell ⟨g, 2, none⟩ (.slice (some ⟨w.heap.size, 0, none⟩) m m)).alloc (.cells (madeCells #[.int .i64 0] m) 3)) ⟨g, vk, vs, w.heap.size, .slice none 0 0, []⟩ m zs zs (List.replicate m 0) (fun _ _ => false) ∧
      Ext w0 ((w.setCell ⟨g, 2, none⟩ (.slice (some ⟨w.heap.size, 0, none⟩) m m)).alloc (.cells (madeCells #[.int .i64 0] m) 3)) := by
  have x := (Ext.refl (w.setCell ⟨g, 2, none⟩ (.slice (some ⟨w.heap.size, 0, none⟩) m m))).alloc (.cells (madeCells #[.int .i64 0] m) 3)
  have hr := Row.made (w.setCell ⟨g, 2, none⟩ (.slice (some ⟨w.heap.size, 0, none⟩) m m)) 3 m m .i64 (Nat.le_refl _) (by omega)
  rw [Nat.mul_one] at hr
  have hsz : (w.setCell ⟨g, 2, none⟩ (.slice (some ⟨w.heap.size, 0, none⟩) m m)).heap.size = w.heap.size := by simp [World.setCell]
  rw [hsz] at hr
  exact ⟨⟨(hL.dev.set 2 _).ext x, (hL.kept.far (p := ⟨g, 2, none⟩) hL.gk _).ext x, (hL.seen.far (p := ⟨g, 2, none⟩) hL.gs _).ext x, hr.mono hL.ext.size, RowE.nil _ _ _, fun t ht => absurd ht (by simp), List.nodup_nil, hL.ks, hL.g0, fun b hb => absurd hb (by simp)⟩, (hL.ext.setCell hL.g0 _).trans x⟩
theorem IsRef.push {B n : Nat} {wr w' : World} {R : RefB} {kept seen writes : List Int} {v' : Value} {g' : Nat} (h : IsRef B wr R n kept seen writes (fun _ _ => false)) (hB : B ≤ wr.heap.size) (ev : v'.ownBlock = some g')
    (hr : RowE w' B 125 v' ((R.rows.map fun b => .slice (some ⟨b, 0, none⟩) n n) ++ [.slice (some ⟨wr.heap.size, 0, none⟩) n n]))
    (f : Fr (fun b => R.vf.ownBlock = some b) (wr.alloc (.cells (madeCells #[.bool false] n) 4)) w') (ho : R.vf.ownBlock = some g' ∨ (wr.alloc (.cells (madeCells #[.bool false] n) 4)).heap.size ≤ g') :
    IsRef B (w'.setCell ⟨R.g, 3, none⟩ v') { R with vf := v', rows := R.rows ++ [wr.heap.size] } n kept seen writes (fun _ _ => false) := by
  have x0 := (Ext.refl wr).alloc (.cells (madeCells #[.bool false] n) 4)
  have F : Fr (fun b => R.vf.ownBlock = some b) wr w' := (Fr.of_ext (S := fun b => R.vf.ownBlock = some b) x0).trans f (fun g _ hg => hg)
  have hvg : R.vf.ownBlock ≠ some R.g := h.flr.blk h.blk (by decide)
  have hblk := h.blk.fr F hvg
  have hgg : R.g ≠ g' := fun e => by
    subst e
    rcases ho with h1 | h1
    · exact hvg h1
    · have := h.blk.lt
      simp at h1
      omega
  have hvg' : v'.ownBlock ≠ some R.g := by rw [ev]; intro e; injection e with e; exact hgg e.symm
  have hlt : ∀ b ∈ R.rows, b < wr.heap.size := fun b hb => by
    obtain ⟨t, ht, rfl⟩ := List.getElem_of_mem hb
    have := (h.row t ht).lt
    rwa [List.getD_eq_getElem?_getD, List.getElem?_eq_getElem ht] at this
  have hkg : R.vk.ownBlock ≠ some R.g := h.kept.blk h.blk (by decide)
  have hsg : R.vs.ownBlock ≠ some R.g := h.seen.blk h.blk (by decide)
  have hwg : (Value.slice (some ⟨R.gw, 0, none⟩) n n).ownBlock ≠ some R.g := h.writes.blk h.blk (by decide)
  refine ⟨hblk.set 3 v', (h.kept.fr F (h.kept.row h.flr (by decide))).far (p := ⟨R.g, 3, none⟩) hkg _, (h.seen.fr F (h.seen.row h.flr (by decide))).far (p := ⟨R.g, 3, none⟩) hsg _, (h.writes.fr F (h.writes.row h.flr (by decide))).far (p := ⟨R.g, 3, none⟩) hwg _, ?_, ?_, ?_, h.ks, h.bg, ?_⟩
  · rw [List.map_append]
    refine hr.kept fun b hb => Below.heap_setCell _ _ _ _ (fun e => hvg' (by rw [hb, e]))
  · intro t ht
    show Blk _ ((R.rows ++ [wr.heap.size]).getD t 0) _ _
    by_cases h1 : t < R.rows.length
    · have e1 : (R.rows ++ [wr.heap.size]).getD t 0 = R.rows.getD t 0 := by
        rw [List.getD_eq_getElem?_getD, List.getElem?_append_left h1, ← List.getD_eq_getElem?_getD]
      rw [e1]
      have hb := h.row t h1
      refine (hb.fr F (h.flr.blk hb (by decide))).far (p := ⟨R.g, 3, none⟩) (hb.ne h.blk (by decide)) _
    · have e2 : t = R.rows.length := by simp at ht; omega
      have e1 : (R.rows ++ [wr.heap.size]).getD t 0 = wr.heap.size := by
        rw [List.getD_eq_getElem?_getD, e2, List.getElem?_append_right (Nat.le_refl _), Nat.sub_self]; rfl
      rw [e1]
      have hb : Blk (wr.alloc (.cells (madeCells #[.bool false] n) 4)) wr.heap.size 4 (flags n (fun _ => false)) := by
        rw [flags_no, made_flags]
        exact Blk.new wr _ _
      have hne : ¬ R.vf.ownBlock = some wr.heap.size := fun e => by have := (h.flr.lt _ e).2; omega
      exact (hb.fr f hne).far (p := ⟨R.g, 3, none⟩) (by have := h.blk.lt; show wr.heap.size ≠ R.g; omega) _
  · rw [List.nodup_append]
    exact ⟨h.nd, by simp, fun a ha b hb => by simp at hb; have := hlt a ha; omega⟩
  · intro b hb
    rcases List.mem_append.1 hb with h1 | h1
    · exact h.br b h1
    · simp at h1
      omega
theorem IsRef.drewR {B n : Nat} {w : World} {R : RefB} {kept seen writes : List Int} {fl : Nat → Nat → Bool} (h : IsRef B w R n kept seen writes fl) : IsRef B w.drew R n kept seen writes fl :=
  ⟨h.blk, h.kept, h.seen, h.writes, h.flr, h.row, h.nd, h.ks, h.bg, h.br⟩
set_option maxRecDepth 100000 in
set_option maxHeartbeats 2000000 in
theorem refOpen_ok (w : World) (A : Option Addr) (N m c T : Nat) (zs : List Int) (hN : m * 8 = N) (N2 : N ≤ 2400) (m0 : 0 < m) (hl : zs.length = N) (hz : Lim zs 18446744073709551616) (hA : Ints w .u64 A zs) (T0 : 0 < T) (T1 : T ≤ 64) :
    Calls Try.prog 74 #[.slice A N c, .int .i64 (T : Int)] w (RefNew w T m zs) := by
  obtain ⟨ad, rfl, hadl, hac⟩ := id (hA (by omega))
  have HA := Lib.hid hA
  clear hac hA
  go_enter Try.func74, Try.ntmps74
  go_wp2_with fail
  have hL : Lays w (w.alloc (.cells #[.slice none 0 0, .slice none 0 0, .slice none 0 0, .slice none 0 0] 43)) w.heap.size (.slice none 0 0) (.slice none 0 0) [] [] :=
    ⟨Blk.new w _ _, Row.nil _ _ _ _, Row.nil _ _ _ _, (Ext.refl w).alloc _, by simp [Value.ownBlock], by simp [Value.ownBlock], fun b h => by simp [Value.ownBlock] at h, Nat.le_refl _⟩
  generalize w.alloc (.cells #[.slice none 0 0, .slice none 0 0, .slice none 0 0, .slice none 0 0] 43) = w1 at *
  generalize w.heap.size = g at hL ⊢
  go_loopw [6] (fun i wr => ∃ (k : Nat) (vk vs : Value), k ≤ N ∧ i = .int .i64 k ∧ Lays w wr g vk vs (zs.take k) (zs.take k)) (fun i _ => N - (intOf i).toNat)
  case atStart => exact ⟨0, _, _, Nat.zero_le _, rfl, hL⟩
  case round =>
    clear hL
    obtain ⟨k, vk, vs, hk, rfl, hL⟩ := hrel
    by_cases hlt : k < N
    · have u1 : decide (k < N) = true := by simp; omega
      have u2 : (k : Int) < (N : Int) := by omega
      have u3 : (0 : Int) ≤ (k : Int) := by omega
      obtain ⟨ad', e1, _, hac⟩ := (HA.out.ext hL.ext) (by omega)
      obtain rfl : ad = ad' := by injection e1
      have hcell := hac k (by omega)
      have c0 : wr.cell? ⟨g, 0, none⟩ = some vk := hL.dev.cell 0
      have f0 : wr.frozen? ⟨g, 0, none⟩ = false := hL.dev.frozen 0
      have hadw : ad.block < wr.heap.size := Nat.lt_of_lt_of_le hadl hL.ext.size
      clear hac e1
      have hgw : g < wr.heap.size := hL.dev.lt
      have hgn : ¬ g = wr.heap.size := by omega
      have hgn2 : ¬ wr.heap.size = g := by omega
      have hL' := Lib.hid hL
      have hne : ad.block < w.heap.size := hadl
      have hng : ∀ b, vk.ownBlock = some b → w.heap.size ≤ b := fun b hb => (World.ownsRow.lt hL.kept b hb).1
      have Hng := Lib.hid hng
      have HT := Lib.hid (show zs.take (k + 1) = zs.take k ++ [zs.getD k 0] by rw [List.take_add_one, List.getD_eq_getElem?_getD, List.getElem?_eq_getElem (by omega)]; rfl)
      generalize hx : zs.getD k 0 = x at hcell HT
      have HX := Lib.hid hx
      clear hx
      clear hL hng
      go_wp2_with fail
      go_cut [26] (fun s26 wx => ∃ vk', Lays w wx g vk' vs (zs.take (k + 1)) (zs.take k))
      case first =>
        go_region_law ((refine step_pushOff (by rfl) _ _ 22 (by rfl) 31 .u64 8 word_info (by omega) Try.underlying22 w wr _ (zs.take k) x (by rfl) hL'.out.kept hL'.out.ext (by rfl) (by rw [List.length_take]; omega) ?_; intro g' cap' w' hrow' hext' hfr ho; have c0' : w'.cell? ⟨g, 0, none⟩ = some vk := (World.cell?_of_block (hfr.block _ hgw (hL'.out.gk))).trans c0; have f0' : w'.frozen? ⟨g, 0, none⟩ = false := (hL'.out.dev.fr hfr hL'.out.gk).frozen 0))
        all_goals
          go_wp2_with fail
          go_meet
          rw [HT.out]
          have hlk : (zs.take k).length = k := by rw [List.length_take]; omega
          rw [hlk] at hrow'
          have hsg : vs.ownBlock ≠ some g' := fun hh => by
            rcases ho with h | h
            · exact hL'.out.ks _ h hh
            · have := (World.ownsRow.lt hL'.out.seen _ hh).2
              omega
          have hgg : g ≠ g' := fun hh => by
            subst hh
            rcases ho with h | h
            · exact hL'.out.gk h
            · omega
          have hd := (hL'.out.dev.fr hfr hL'.out.gk).set 0 (.slice (some ⟨g', 0, none⟩) (k + 1) cap')
          have hs2 := (hL'.out.seen.fr hfr (fun b hb hb2 => hL'.out.ks b hb2 hb)).far (p := ⟨g, 0, none⟩) hL'.out.gs (.slice (some ⟨g', 0, none⟩) (k + 1) cap')
          have hk2 := hrow'.far (p := ⟨g, 0, none⟩) (by simp [Value.ownBlock]; exact fun h => hgg h.symm) (.slice (some ⟨g', 0, none⟩) (k + 1) cap')
          exact ⟨.slice (some ⟨g', 0, none⟩) (k + 1) cap', hd, hk2, hs2, hext'.setCell hL'.out.g0 _, by simp [Value.ownBlock]; exact fun h => hgg h.symm, hL'.out.gs, fun b hb => by
            have e : g' = b := by simpa [Value.ownBlock] using hb
            subst e
            exact hsg, hL'.out.g0⟩
      case rest =>
        obtain ⟨vk', hL2⟩ := hcut
        clear hcell c0 f0 hgw hgn hgn2 hL' hadw Hng
        generalize wc = w5 at *
        obtain ⟨ad', e1, _, hac⟩ := (HA.out.ext hL2.ext) (by omega)
        obtain rfl : ad = ad' := by injection e1
        have hcell : w5.cell? (ad.add k) = some (.int .u64 x) := by rw [hac k (by omega), HX.out]
        have c0 : w5.cell? ⟨g, 1, none⟩ = some vs := hL2.dev.cell 1
        have hgw : g < w5.heap.size := hL2.dev.lt
        have hgn : ¬ g = w5.heap.size := by omega
        have hgn2 : ¬ w5.heap.size = g := by omega
        have hadw : ad.block < w5.heap.size := Nat.lt_of_lt_of_le hadl hL2.ext.size
        have hL' := Lib.hid hL2
        clear hac e1 hL2
        go_wp2_with fail
        go_region_law ((refine step_pushOff (by rfl) _ _ 22 (by rfl) 31 .u64 8 word_info (by omega) Try.underlying22 w w5 _ (zs.take k) x (by rfl) hL'.out.seen hL'.out.ext (by rfl) (by rw [List.length_take]; omega) ?_; intro g' cap' w' hrow' hext' hfr ho; have c0' : w'.cell? ⟨g, 1, none⟩ = some vs := (World.cell?_of_block (hfr.block _ hgw (hL'.out.gs))).trans c0; have f0' : w'.frozen? ⟨g, 1, none⟩ = false := (hL'.out.dev.fr hfr hL'.out.gs).frozen 1))
        all_goals
          have hlk : (zs.take k).length = k := by rw [List.length_take]; omega
          rw [hlk] at hrow'
          have hsg : vk'.ownBlock ≠ some g' := fun hh => by
            rcases ho with h | h
            · exact hL'.out.ks _ hh h
            · have := (World.ownsRow.lt hL'.out.kept _ hh).2
              omega
          have hgg : g ≠ g' := fun hh => by
            subst hh
            rcases ho with h | h
            · exact hL'.out.gs h
            · omega
          have hd := (hL'.out.dev.fr hfr hL'.out.gs).set 1 (.slice (some ⟨g', 0, none⟩) (k + 1) cap')
          have hs2 := (hL'.out.kept.fr hfr (fun b hb hb2 => hL'.out.ks b hb hb2)).far (p := ⟨g, 1, none⟩) hL'.out.gk (.slice (some ⟨g', 0, none⟩) (k + 1) cap')
          have hk2 := hrow'.far (p := ⟨g, 1, none⟩) (by simp [Value.ownBlock]; exact fun h => hgg h.symm) (.slice (some ⟨g', 0, none⟩) (k + 1) cap')
          rw [← HT.out] at hk2
          have hL3 : Lays w (w'.setCell ⟨g, 1, none⟩ (.slice (some ⟨g', 0, none⟩) (k + 1) cap')) g vk' (.slice (some ⟨g', 0, none⟩) (k + 1) cap') (zs.take (k + 1)) (zs.take (k + 1)) := ⟨hd, hs2, hk2, hext'.setCell hL'.out.g0 _, hL'.out.gk, by simp [Value.ownBlock]; exact fun h => hgg h.symm, fun b hb => by
            intro hb2
            have e : g' = b := by simpa [Value.ownBlock] using hb2
            subst e
            exact hsg hb, hL'.out.g0⟩
          clear hd hs2 hk2 hrow' hext' hfr ho
          go_wp2_with fail
          go_roundw
          case rel => exact ⟨k + 1, vk', _, by omega, by go_num, by first | exact hL3 | exact ⟨hL3.dev, hL3.kept, hL3.seen, hL3.ext.drew, hL3.gk, hL3.gs, hL3.ks, hL3.g0⟩⟩
          case measure => simp [intOf]; omega
    · have u1 : decide (k < N) = false := by simp; omega
      have u2 : ¬ (k : Int) < (N : Int) := by omega
      obtain rfl : k = N := by omega
      rw [List.take_of_length_le (by omega)] at hL
      have hd : ((k : Int)) / 8 = (m : Int) := by omega
      have hd2 : ((k : Int)).tdiv 8 = (m : Int) := by rw [Int.tdiv_eq_ediv_of_nonneg (by omega)]; exact hd
      have hmk := fun W => make_ints m m (Nat.le_refl _) (by omega) W
      have c2 : wr.cell? ⟨g, 2, none⟩ = some (.slice none 0 0) := hL.dev.cell 2
      have f2 : wr.frozen? ⟨g, 2, none⟩ = false := hL.dev.frozen 2
      have hgw : g < wr.heap.size := hL.dev.lt
      have hgn : ¬ g = wr.heap.size := by omega
      have hgn2 : ¬ wr.heap.size = g := by omega
      have HL := Lib.hid hL
      clear hL
      have HD := Lib.hid (HL.out.done m (by omega))
      have hne0 : 0 < m := m0
      go_wp2_with fail
      clear c2 f2 hgw hgn hgn2 hmk HL HA
      generalize (wr.setCell ⟨g, 2, none⟩ (.slice (some ⟨wr.heap.size, 0, none⟩) m m)).alloc (.cells (madeCells #[.int .i64 0] m) 3) = w3 at *
      go_loopw [7] (fun i wq => ∃ (q : Nat) (R : RefB), q ≤ T ∧ i = .int .i64 q ∧ R.g = g ∧ R.rows.length = q ∧ IsRef w.heap.size wq R m zs zs (List.replicate m 0) (fun _ _ => false) ∧ Ext w wq) (fun i _ => T - (intOf i).toNat)
      case atStart => exact ⟨0, _, Nat.zero_le _, rfl, rfl, rfl, HD.out.1, HD.out.2⟩
      case round =>
        clear HD
        obtain ⟨q, R, hq, rfl, rfl, hrl, hR, hX⟩ := hrel
        have HR := Lib.hid hR
        have HX := Lib.hid hX
        have HQ := Lib.hid hrl
        by_cases hlt : q < T
        · have v1 : decide (q < T) = true := by simp; omega
          have v2 : (q : Int) < (T : Int) := by omega
          have c3 : wr.cell? ⟨R.g, 3, none⟩ = some R.vf := hR.blk.cell 3
          have f3 : wr.frozen? ⟨R.g, 3, none⟩ = false := hR.blk.frozen 3
          have hgw : R.g < wr.heap.size := hR.blk.lt
          have hgn : ¬ R.g = wr.heap.size := by omega
          have hgn2 : ¬ R.g = wr.heap.size + 1 := by omega
          have hvg : R.vf.ownBlock ≠ some R.g := hR.flr.blk hR.blk (by decide)
          have HV := Lib.hid hvg
          have hmk := fun W => make_flags m (by omega) W
          have hwm : IntKind.i64.wrap (m : Int) = (m : Int) := IntWalk.i64_in _ (by omega)
          clear hR hX hrl hvg
          generalize hg : R.g = g at c3 f3 hgw hgn hgn2
          have HG := Lib.hid hg
          clear hg
          go_wp2_with fail
          go_region_law ((refine step_pushE (by rfl) _ _ 41 (by rfl) 125 (.slice none 0 0) 24 row_info rfl (by omega) Try.underlying41 w (wr.alloc (.cells (madeCells #[.bool false] m) 4)) _ (R.rows.map fun b => .slice (some ⟨b, 0, none⟩) m m) (.slice (some ⟨wr.heap.size, 0, none⟩) m m) rfl (by rfl) (World.ownsRow.alloc HR.out.flr _) (HX.out.alloc _) (by first | rfl | (simp; rfl)) (by rw [List.length_map, HQ.out]; omega) ?_; intro g' cap' w' hrow' hext' hfr ho; have c3' : w'.cell? ⟨g, 3, none⟩ = some R.vf := (by rw [← HG.out]; exact ((HR.out.blk.ext ((Ext.refl wr).alloc _)).fr hfr HV.out).cell 3); have f3' : w'.frozen? ⟨g, 3, none⟩ = false := by rw [← HG.out]; exact ((HR.out.blk.ext ((Ext.refl wr).alloc _)).fr hfr HV.out).frozen 3))
          all_goals
            rw [List.length_map] at hrow'
            have hp := HR.out.push HX.out.size (v' := .slice (some ⟨g', 0, none⟩) (R.rows.length + 1) cap') rfl hrow' hfr ho
            have hxx := hext'.setCell (p := ⟨R.g, 3, none⟩) HR.out.bg (.slice (some ⟨g', 0, none⟩) (R.rows.length + 1) cap')
            rw [HG.out] at hp hxx
            clear hrow' hfr ho hext' c3' f3' c3 f3 hgw hgn hgn2
            go_wp2_with fail
            go_roundw
            case rel => exact ⟨q + 1, { R with g := g, vf := .slice (some ⟨g', 0, none⟩) (R.rows.length + 1) cap', rows := R.rows ++ [wr.heap.size] }, by omega, by go_num, by first | rfl | exact HG.out | exact HG.out.symm, by rw [List.length_append, HQ.out]; rfl, by first | exact hp | exact hp.drewR, by first | exact hxx | exact hxx.drew⟩
            case measure => simp [intOf]; omega
        · have v1 : decide (q < T) = false := by simp; omega
          have v2 : ¬ (q : Int) < (T : Int) := by omega
          clear hR hX hrl
          go_wp2_with fail
          go_ret
          exact ⟨R, rfl, by have := HQ.out; omega, HR.out, HX.out⟩
end Go.Proofs.Ytcelhllhdkminaa
