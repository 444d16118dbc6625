/- Whatever is seen clean is kept, however several threads read and put links that were not there before, and lines are written back between: the law answers true for every config and picks, and changes nothing. Conditions: none. -/
import Derived.Test.YtndplpfbohigpaaGreatKept1
import Derived.Test.YtndplpfbohigpaaGreatArgs
import Derived.Test.YtndplpfbohigpaaGreatKView
import Derived.Test.YtndplpfbohigpaaGreatLinkKeptFacts
namespace Go.Proofs.YtndplpfbohigpaaGreat
open Go.ChangeShapes Go.WideShapes Go.ChangeAt Go.RowKit
set_option linter.unusedVariables false

theorem wf_u16 {n : Int} (h : (Lit.int .u16 n).wf = true) : 0 ≤ n ∧ n < 65536 := by
  simp [Lit.wf, IntKind.min, IntKind.max, IntKind.signed, IntKind.bits] at h; omega
theorem lim_u16 {zs : List Int} (h : ∀ n ∈ zs, (Lit.int .u16 n).wf = true) : Lim zs 65536 := fun j hj => by
  have hm : zs.getD j 0 ∈ zs := by simp [List.getD_eq_getElem?_getD, hj]
  exact wf_u16 (h _ hm)
theorem hand_info : (Tryz.prog.info? 139).map (fun i => (i.zero, i.size, i.bytes)) = some (some (.agg #[.pointer none, .pointer none]), 2, 16) := by kernel_rfl
theorem make_hands (n : Nat) (hc : n ≤ 1000000000) (W : World) :
    (Instr.makeSlice 134 (.int .i64 (n : Int)) (.int .i64 (n : Int))).run Tryz.prog W = .ok (.slice (some ⟨W.heap.size, 0, none⟩) n n) (W.alloc (.cells (madeCells #[.pointer none, .pointer none] (n * 2)) 139)) := by
  obtain ⟨i, hi, hz1, hz2, hz3⟩ := info_parts hand_info
  have h := run_makeInts (k := .u8) Tryz.underlying134 hi hz1 hz2 n n (Nat.le_refl _) (by rw [hz3]; omega) (by unfold maxLen; omega) W
  exact h
theorem made_hands (n : Nat) : madeCells #[.pointer none, .pointer none] (n * 2) = (((List.replicate n LH.off).map LH.cells).flatten).toArray := by
  have e : ∀ n : Nat, ((List.replicate n LH.off).map LH.cells).flatten = List.replicate (n * 2) (.pointer none) := fun n => by
    induction n with
    | zero => rfl
    | succ n ih =>
      rw [List.replicate_succ, List.map_cons, List.flatten_cons, ih, Nat.succ_mul, List.replicate_succ, List.replicate_succ]
      rfl
  rw [e]
  apply Array.ext
  · simp [madeCells]
  · intro i h1 h2
    have hr : i % 2 = 0 ∨ i % 2 = 1 := by omega
    have e3 : (madeCells #[.pointer none, .pointer none] (n * 2))[i] = #[Value.pointer none, .pointer none][i % 2]! := by simp [madeCells]
    rw [e3, List.getElem_toArray, List.getElem_replicate]
    rcases hr with e | e <;> rw [e] <;> rfl
/-- Another state of the memory, the machines as they were. -/
theorem ManyAt.same {C : TypeId} {w1 w w' : World} {gm gl gh : Nat} {dv pv : Value} {F : Nat → Int} {rows : List (List Value)} {os : List Owned} {s s' : MSt} (h : ManyAt C w1 w gm dv pv gl gh F rows os s)
    (m : IsMem (fun q => q = gl ∨ q = gh ∨ ∃ (i : Nat) (p : Nat × TypeId × List Value), os[i]? = some (some p) ∧ q = p.1) w w1 w' gm dv pv s') : ManyAt C w1 w' gm dv pv gl gh F rows os s' :=
  ⟨m.here, (m.keptQ gl (Or.inl rfl)).trans h.l, (m.keptQ gh (Or.inr (Or.inl rfl))).trans h.h, fun i p e => ⟨(m.keptQ p.1 (Or.inr (Or.inr ⟨i, p, e, rfl⟩))).trans (h.a i p e).1, (h.a i p e).2⟩, h.d, h.lh, h.gh0⟩
/-- All that holds behind so many picks. -/
structure KeptAt (t s l b j : Nat) (hs : List LH) (st : MSt) : Prop where
  ki : KI (2 + t + s) (wN t s l b) t (hs.map LH.abs) j st
  each : ∀ (i : Nat) (h : LH), hs[i]? = some h → h.Wf ∧ h.at9
  fi : Fine j st.dev
  ca : CalmN (100 + (j : Int)) st
theorem KeptAt.zero (t s l b : Nat) : KeptAt t s l b 0 (List.replicate t .off) (groundSt t s l b []) := by
  refine ⟨?_, fun i h e => ?_, ground_fine t s l b [], by simpa using ground_calm t s l b [] (by decide)⟩
  · rw [List.map_replicate]
    exact KI.zero
  · rw [List.getElem?_replicate] at e
    split at e
    · injection e with e
      subst e
      exact ⟨trivial, trivial⟩
    · cases e
theorem KeptAt.evict {t s l b j : Nat} {hs : List LH} {st : MSt} (h : KeptAt t s l b j hs st) (hN : 4 ≤ wN t s l b) (q : Int) : KeptAt t s l b (j + 1) hs (st.withDev (st.dev.evict q)) := by
  refine ⟨?_, h.each, ?_, ?_⟩
  · rw [show ((j + 1 : Nat) : Int) = (j : Int) + 1 by omega]
    exact h.ki.up.evict hN q
  · show Fine (j + 1) (st.dev.evict q)
    unfold DSt.evict
    split
    · exact ⟨h.fi.srt, h.fi.rng, fun t => by have := h.fi.len t; show (st.dev.fl.getD t []).length ≤ j + 1; omega, (Few.back h.fi.few _).mono (by omega)⟩
    · exact h.fi.up
  · exact CalmN.mono (s := st.withDev (st.dev.evict q)) h.ca (by omega)
theorem LH.step_abs {h : LH} {t : Nat} {s : MSt} (hw : h.Wf) (hU : ∀ a, W64 (peekV s a)) (hd : h.dn = false) : kS t h.abs s = ((h.step t s).1.abs, (h.step t s).2) ∧ (h.step t s).1.Wf := by
  cases h with
  | off => cases hd
  | read g a x => exact LH.stepR hw (hU a) hd
  | set g a o n x => exact LH.stepS hw hd
theorem LH.step_at9 {h : LH} {t : Nat} {s : MSt} (h9 : h.at9) : (h.step t s).1.at9 := by
  cases h <;> exact h9
theorem LH.step_fine {h : LH} {t k : Nat} {s : MSt} (hf : Fine k s.dev) (hn : s.dev.n ≤ 90) : Fine (k + 1) (h.step t s).2.dev := by
  cases h with
  | off => exact hf.up
  | read g a x => exact lrS_fine9 hf hn
  | set g a o n x => exact lsS_fine9 hf hn
theorem LH.step_calm {h : LH} {t : Nat} {n : Int} {s : MSt} (hc : CalmN n s) : CalmN (n + 1) (h.step t s).2 := by
  cases h with
  | off => exact hc.mono (by omega)
  | read g a x => exact lrS_calm hc
  | set g a o n x => exact lsS_calm hc
theorem KeptAt.step {t s l b j : Nat} {hs : List LH} {st : MSt} (h : KeptAt t s l b j hs st) (hN : 4 ≤ wN t s l b) (hN9 : wN t s l b ≤ 90) (hT : t ≤ 1000) (hj : j ≤ 1000) (hU : ∀ a, W64 (peekV st a)) {tt : Nat} {h0 : LH} (e : hs[tt]? = some h0) {a : Int} (ha : 20 ≤ a ∧ a < 28) (rd : Bool) (g : Nat) :
    KeptAt t s l b (j + 1) (hs.set tt ((h0.next rd a (peekV st a) j g).step tt st).1) ((h0.next rd a (peekV st a) j g).step tt st).2 := by
  have hlt : tt < hs.length := (List.getElem?_eq_some_iff.1 e).1
  obtain ⟨w0, a0⟩ := h.each tt h0 e
  have ea : (hs.map LH.abs)[tt]? = some h0.abs := by rw [List.getElem?_map, e]; rfl
  have key : ∃ h1 : LH, h0.next rd a (peekV st a) j g = h1 ∧ h1.dn = false ∧ h1.Wf ∧ h1.at9 ∧ KI (2 + t + s) (wN t s l b) t ((hs.map LH.abs).set tt h1.abs) ((j : Int) + 1) st := by
    unfold LH.next
    by_cases hd : h0.dn = true
    · rw [if_pos hd]
      rw [LH.idle hd] at ea
      by_cases hr : rd = true
      · rw [if_pos hr]
        exact ⟨_, rfl, rfl, ⟨⟨Or.inl rfl, ⟨Int.le_refl 0, by show (0 : Int) < _; decide⟩⟩, fun _ c => absurd rfl c⟩, ha, h.ki.loads ea ha.1 ha.2⟩
      · rw [if_neg hr]
        exact ⟨_, rfl, rfl, Or.inl rfl, ha, h.ki.puts (by omega) ea ha.1 ha.2⟩
    · rw [if_neg hd]
      refine ⟨_, rfl, by simpa using hd, w0, a0, ?_⟩
      have es : (hs.map LH.abs).set tt h0.abs = hs.map LH.abs := set_self _ _ _ ea
      rw [es]
      exact h.ki.up
  obtain ⟨h1, e1, d1, w1, a1, k1⟩ := key
  rw [e1]
  have hlt2 : tt < (hs.map LH.abs).length := by rw [List.length_map]; exact hlt
  obtain ⟨s1, s2⟩ := LH.step_abs (t := tt) (s := st) w1 hU d1
  have k2 := k1.step hN hT (t := tt) (x := h1.abs) (by rw [set_get9 _ _ _ _ hlt2, if_pos rfl])
  rw [s1, List.set_set] at k2
  refine ⟨?_, fun i z ez => ?_, LH.step_fine h.fi (by rw [h.ki.ok.ok.n]; exact hN9), ?_⟩
  · rw [List.map_set, show ((j + 1 : Nat) : Int) = (j : Int) + 1 by omega]
    exact k2
  · rw [set_get9 _ _ _ _ hlt] at ez
    by_cases c : i = tt
    · rw [if_pos c] at ez
      injection ez with ez
      subst ez
      exact ⟨s2, LH.step_at9 a1⟩
    · rw [if_neg c] at ez
      exact h.each i z ez
  · have := LH.step_calm (h := h1) (t := tt) h.ca
    rw [show (100 : Int) + ((j + 1 : Nat) : Int) = 100 + (j : Int) + 1 by omega]
    exact this
theorem rowsL_len (hs : List LH) : ∀ r ∈ hs.map LH.cells, r.length = 2 := fun r hr => by
  obtain ⟨h, _, e⟩ := List.mem_map.1 hr
  rw [← e]
  cases h <;> rfl
theorem kept_at {t s l b j : Nat} {hs : List LH} {st : MSt} (h : KeptAt t s l b j hs st) (a : Nat) (h0 : 20 ≤ a) (h1 : a < 28) : BM.dirtyB (peekV st a) = false → clN (st.dev.kept.getD a 0) = peekV st a := fun d => h.ki.cle a (by omega) (by omega) d
set_option maxRecDepth 100000 in
set_option maxHeartbeats 16000000 in
theorem linkKept_yes (w : World) (A : Option Addr) (n c : Nat) (t s l b : Nat) (zs : List Int) (hl : zs.length = n) (hn : n ≤ 300) (hA : Ints w .u16 A zs) (hz : Lim zs 65536) (hg : GrOk t s l b) :
    Calls Tryz.prog 13 #[.agg #[.int .i64 t, .int .i64 s, .int .i64 l, .int .i64 b], .slice A n c] w fun e w' => e = .returned (.bool true) ∧ Ext w w' := by
  have X0 := Lib.hid ((Ext.refl w).alloc (.cells #[.int .i64 t, .int .i64 s, .int .i64 l, .int .i64 b] 23))
  have B0 := Lib.hid (Blk.new w 23 [.int .i64 t, .int .i64 s, .int .i64 l, .int .i64 b])
  have HY := Lib.hid (fun W => few9_yes t s l b W hg)
  have HI := Lib.hid hA
  have HZ := Lib.hid hz
  have HL := Lib.hid hl
  have HLa : Hid (∀ W, Calls Tryz.prog 18 #[.agg #[.int .i64 t, .int .i64 s, .int .i64 l, .int .i64 b, .slice none 0 0]] W (GrNew W t s l b [])) := Lib.hid (fun W => lay_ok W none 0 0 t s l b [] hg rfl (by decide) (fun h => absurd h (by decide)))
  have HK0 := Lib.hid (KeptAt.zero t s l b)
  obtain ⟨hc, h1, h2, h3, h4⟩ := id hg
  obtain ⟨⟨q0, q1⟩, ⟨q2, q3⟩, ⟨q4, q5⟩, q6, q7⟩ := id hc
  have t1 : 1 ≤ t := by omega
  have t6 : t ≤ 6 := by omega
  have hN4 : 4 ≤ wN t s l b := by unfold wN; omega
  have hN9 : wN t s l b ≤ 90 := by have := wN_le (t := t) (s := s) (l := l) (b := b) (by omega) (by omega) (by omega) (by omega); omega
  have HN := Lib.hid (And.intro hN4 hN9)
  have hmk := fun W => make_hands t (by omega) W
  have HMd := Lib.hid (made_hands t)
  generalize madeCells #[.pointer none, .pointer none] (t * 2) = MW at *
  have d300 : decide (300 < n) = false := by simp; omega
  have d300' : decide ((300 : Int) < (n : Int)) = false := by simp; omega
  clear hA hz hl hg hc h1 h2 h3 h4 q0 q1 q2 q3 q4 q5 q6 q7 hN4 hN9
  go_enter Tryz.func13, Tryz.ntmps13
  go_upto_region 1 with fail
  generalize w.alloc (.cells #[.int .i64 t, .int .i64 s, .int .i64 l, .int .i64 b] 23) = W0 at *
  have y0 : W0.cell? ⟨w.heap.size, 0, none⟩ = some (.int .i64 t) := B0.out.cell 0
  have y1 : W0.cell? ⟨w.heap.size, 1, none⟩ = some (.int .i64 s) := B0.out.cell 1
  have y2 : W0.cell? ⟨w.heap.size, 2, none⟩ = some (.int .i64 l) := B0.out.cell 2
  have y3 : W0.cell? ⟨w.heap.size, 3, none⟩ = some (.int .i64 b) := B0.out.cell 3
  go_wp2_with fail
  refine (HY.out _).mono ?_
  rintro e w1 ⟨rfl, x1⟩
  have X1 := Lib.hid (X0.out.trans x1)
  have B1 := Lib.hid (B0.out.ext x1)
  clear x1 y0 y1 y2 y3 X0 B0 HY
  have y0 : w1.cell? ⟨w.heap.size, 0, none⟩ = some (.int .i64 t) := B1.out.cell 0
  have y1 : w1.cell? ⟨w.heap.size, 1, none⟩ = some (.int .i64 s) := B1.out.cell 1
  have y2 : w1.cell? ⟨w.heap.size, 2, none⟩ = some (.int .i64 l) := B1.out.cell 2
  have y3 : w1.cell? ⟨w.heap.size, 3, none⟩ = some (.int .i64 b) := B1.out.cell 3
  go_upto_region 3 with fail
  clear d300 d300'
  go_wp2_with fail
  refine (HLa.out _).mono ?_
  rintro e w3 ⟨gl, gm, dv, pv, g, R, rv, rfl, bl, gr⟩
  have B3 := Lib.hid (B1.out.ext gr.mem.lt.1)
  have BL := Lib.hid bl
  have GR := Lib.hid gr
  clear bl gr HLa y0 y1 y2 y3
  have y0 : w3.cell? ⟨w.heap.size, 0, none⟩ = some (.int .i64 t) := B3.out.cell 0
  have y1 : w3.cell? ⟨w.heap.size, 1, none⟩ = some (.int .i64 s) := B3.out.cell 1
  have y2 : w3.cell? ⟨w.heap.size, 2, none⟩ = some (.int .i64 l) := B3.out.cell 2
  have y3 : w3.cell? ⟨w.heap.size, 3, none⟩ = some (.int .i64 b) := B3.out.cell 3
  go_upto_block 0 with fail
  have x4 := (Ext.refl w3).alloc (.cells MW 139)
  have A4 : Hid (ManyAt 139 w1 (w3.alloc (.cells MW 139)) gm dv pv gl w3.heap.size (layF t s l b) ((List.replicate t LH.off).map LH.cells) ((List.replicate t LH.off).mapIdx LH.own) (groundSt t s l b [])) := Lib.hid (by
    have hbl := BL.out.lt
    have bh := Blk.new w3 139 (((List.replicate t LH.off).map LH.cells).flatten)
    rw [← HMd.out] at bh
    have no : ∀ (i : Nat) (p : Nat × TypeId × List Value), ((List.replicate t LH.off).mapIdx LH.own)[i]? ≠ some (some p) := fun i p e => by
      rw [List.getElem?_mapIdx, List.getElem?_replicate] at e
      split at e
      · injection e with e; cases e
      · cases e
    refine ⟨GR.out.mem.hold x4 (fun q hq => ?_), BL.out.ext x4, bh, fun i p e => absurd e (no i p), fun i j p q e => absurd e (no i p), by omega, GR.out.mem.lt.1.size⟩
    rcases hq with e | e | ⟨i, p, e, _⟩
    · rw [e]; exact ⟨by simp; omega, Or.inl (Or.inr rfl)⟩
    · rw [e]; exact ⟨by simp, Or.inr (Nat.le_refl _)⟩
    · exact absurd e (no i p))
  generalize groundSt t s l b [] = st at *
  generalize w3.alloc (.cells MW 139) = W4 at *
  generalize w3.heap.size = gh at *
  clear x4 hmk HMd y0 y1 y2 y3 B3 BL GR
  go_wp2_with fail
  go_loopw [10] (fun i wr => ∃ (j : Nat) (hs : List LH) (sk : MSt), j ≤ n ∧ i = .int .i64 j ∧ hs.length = t ∧ ManyAt 139 w1 wr gm dv pv gl gh (layF t s l b) (hs.map LH.cells) (hs.mapIdx LH.own) sk ∧ KeptAt t s l b j hs sk) (fun i _ => n - (intOf i).toNat)
  case atStart => exact ⟨0, _, _, Nat.zero_le _, rfl, by simp, A4.out, HK0.out⟩
  case round =>
    obtain ⟨j, hs, sk, hj, rfl, hlen, ha, hk⟩ := hrel
    have HA := Lib.hid ha
    have HK := Lib.hid hk
    have HN2 := Lib.hid hlen
    have HB := Lib.hid (B1.out.ext ha.m.lt.1)
    have XK := Lib.hid (X1.out.trans ha.m.lt.1)
    clear ha hk hlen A4 HK0
    by_cases hlt : j < n
    · have v1 : decide (j < n) = true := by simp; omega
      obtain ⟨ad, hAd, hadb, hcc⟩ := (HI.out.ext XK.out) (by have := HL.out; omega)
      have p0 := hcc j (by have := HL.out; omega)
      have HP0 : Hid (∀ W, Ext w W → W.cell? (ad.add j) = some (.int .u16 (zs.getD j 0))) := Lib.hid (fun W x => by
        obtain ⟨ad', hA', _, hcc'⟩ := (HI.out.ext x) (by have := HL.out; omega)
        rw [hAd] at hA'
        injection hA' with hA'
        subst hA'
        exact hcc' j (by have := HL.out; omega))
      have zr := HZ.out j (by have := HL.out; omega)
      generalize zs.getD j 0 = z at *
      obtain ⟨zn, rfl⟩ := Int.eq_ofNat_of_zero_le zr.1
      subst hAd
      obtain ⟨qn, hqn⟩ : ∃ qn : Nat, qn = zn / 16 := ⟨_, rfl⟩
      obtain ⟨rn, hrn⟩ : ∃ rn : Nat, rn = qn % 8 := ⟨_, rfl⟩
      obtain ⟨an, han⟩ : ∃ an : Nat, an = 20 + rn := ⟨_, rfl⟩
      obtain ⟨en, hen⟩ : ∃ en : Nat, en = zn % 8 := ⟨_, rfl⟩
      obtain ⟨fn, hfn⟩ : ∃ fn : Nat, fn = zn % 16 := ⟨_, rfl⟩
      have zr2 := zr.2
      have g1 : ((zn : Int)).tdiv 16 = (qn : Int) := by rw [Int.tdiv_eq_ediv_of_nonneg (by omega)]; omega
      have G2 : Hid (IntKind.u16.wrap (((zn : Int)).tdiv 16) = (qn : Int)) := Lib.hid (by rw [g1]; show (qn : Int) % 65536 = _; omega)
      have G2b : Hid (IntKind.u16.wrap ((zn : Int) / 16) = (qn : Int)) := Lib.hid (by rw [← Int.tdiv_eq_ediv_of_nonneg (by omega)]; exact G2.out)
      have G3 : Hid (((qn : Int)).tmod 8 = (rn : Int)) := Lib.hid (by rw [Int.tmod_eq_emod_of_nonneg (by omega)]; omega)
      have G4 : Hid (IntKind.i64.wrap (20 + (rn : Int)) = (an : Int)) := Lib.hid (by rw [show (20 : Int) + (rn : Int) = (an : Int) by omega]; exact i64w _ (by omega) (by omega))
      have G4b : Hid (wrap64 (20 + (rn : Int)) = (an : Int)) := Lib.hid (by unfold wrap64; omega)
      have G5 : Hid (((zn : Int)).tmod 8 = (en : Int)) := Lib.hid (by rw [Int.tmod_eq_emod_of_nonneg (by omega)]; omega)
      have G6 : Hid (((zn : Int)).tmod 16 = (fn : Int)) := Lib.hid (by rw [Int.tmod_eq_emod_of_nonneg (by omega)]; omega)
      have G5b : Hid ((zn : Int) % 8 = (en : Int)) := Lib.hid (by omega)
      have G6b : Hid ((zn : Int) % 16 = (fn : Int)) := Lib.hid (by omega)
      have G7 : Hid (IntKind.i64.wrap (qn : Int) = (qn : Int)) := Lib.hid (i64w _ (by omega) (by omega))
      have G7b : Hid (wrap64 (qn : Int) = (qn : Int)) := Lib.hid (by unfold wrap64; omega)
      have G3b : Hid ((qn : Int) % 8 = (rn : Int)) := Lib.hid (by omega)
      have hab : 20 ≤ an ∧ an < 28 := by omega
      have HAb := Lib.hid hab
      have heb : en < 8 := by omega
      have HEb := Lib.hid heb
      have hfb : fn < 16 := by omega
      have HFb := Lib.hid hfb
      obtain ⟨ql, hql⟩ : ∃ ql : Nat, an / 8 = ql := ⟨_, rfl⟩
      have G8 : Hid (((an : Int)).tdiv 8 = (ql : Int)) := Lib.hid (by rw [Int.tdiv_eq_ediv_of_nonneg (by omega)]; omega)
      have G8b : Hid ((an : Int) / 8 = (ql : Int)) := Lib.hid (by omega)
      have G9 : Hid (IntKind.i64.wrap (ql : Int) = (ql : Int)) := Lib.hid (i64w _ (by omega) (by omega))
      have G9b : Hid (wrap64 (ql : Int) = (ql : Int)) := Lib.hid (by unfold wrap64; omega)
      have G10 : Hid (IntKind.i64.wrap (en : Int) = (en : Int)) := Lib.hid (i64w _ (by omega) (by omega))
      have G10b : Hid (wrap64 (en : Int) = (en : Int)) := Lib.hid (by unfold wrap64; omega)
      have hj1 : j ≤ 1000 := by omega
      obtain ⟨e7b, he7⟩ : ∃ e7b, ((en : Int) == 7) = e7b := ⟨_, rfl⟩
      clear hcc zr zr2 hqn hrn han hen hfn g1 hab heb hadb hfb hql
      have g2 := G2.out
      have g2b := G2b.out
      have g3 := G3.out
      have g3b := G3b.out
      have g4 := G4.out
      have g4b := G4b.out
      have g7 := G7.out
      have g7b := G7b.out
      go_upto_if 56 with fail
      clear g2 g2b g3 g3b g4 g4b g7 g7b G2 G2b G3 G3b G4 G4b G7 G7b
      go_cut [11] (fun s11 wx => ∃ (hs' : List LH) (sk' : MSt), hs'.length = t ∧ ManyAt 139 w1 wx gm dv pv gl gh (layF t s l b) (hs'.map LH.cells) (hs'.mapIdx LH.own) sk' ∧ KeptAt t s l b (j + 1) hs' sk')
      case first =>
        cases e7b
        rotate_left
        · have g5 := G5.out
          have g5b := G5b.out
          have g8 := G8.out
          have g8b := G8b.out
          have g9 := G9.out
          have g9b := G9b.out
          have HDe := Lib.hid (memDevice_ok HA.out.m)
          have HEv := Lib.hid ((HA.out.m.dev.evict (i := j) hj1 HK.out.fi (ql : Int)).mono (fun e w' hh => (⟨hh.1, HA.out.m.devTo hh.2⟩ : e = .returned (.int .i64 (evictE sk.dev (ql : Int))) ∧ IsMem _ wr w1 w' gm dv pv (sk.withDev (sk.dev.evict (ql : Int))))))
          have HKe := Lib.hid (HK.out.evict HN.out.1 (ql : Int))
          clear G5 G5b G6 G6b G8 G8b G9 G9b G10 G10b
          go_wp2_with fail
          refine HDe.out.mono ?_
          rintro e w' ⟨rfl, rfl⟩
          go_wp2_with fail
          refine HEv.out.mono ?_
          rintro e w5 ⟨rfl, m5⟩
          have A5 := Lib.hid (HA.out.same m5)
          clear m5
          go_wp2_with fail
          go_meet
          exact ⟨hs, _, HN2.out, A5.out, HKe.out⟩
        · have g5 := G5.out
          have g5b := G5b.out
          go_upto_region 11 with fail
          clear g5 g5b
          obtain ⟨tt, htt⟩ : ∃ tt, en % t = tt := ⟨_, rfl⟩
          have htl : tt < t := by rw [← htt]; exact Nat.mod_lt _ (by omega)
          have ht0 : ((t : Int) == 0) = false := by rw [beq_eq_false_iff_ne]; omega
          have ht0' : ¬ (t : Int) = 0 := by omega
          have d8 : decide ((tt : Int) < (t : Int)) = true := by simp; omega
          have d8' : decide (tt < t) = true := by simp; omega
          have hm0 : ((en : Int)).tmod (t : Int) = (tt : Int) := by
            rw [Int.tmod_eq_emod_of_nonneg (by omega), ← htt]
            rfl
          have y0 : wr.cell? ⟨w.heap.size, 0, none⟩ = some (.int .i64 t) := HB.out.cell 0
          have y1 : wr.cell? ⟨w.heap.size, 1, none⟩ = some (.int .i64 s) := HB.out.cell 1
          have y2 : wr.cell? ⟨w.heap.size, 2, none⟩ = some (.int .i64 l) := HB.out.cell 2
          have y3 : wr.cell? ⟨w.heap.size, 3, none⟩ = some (.int .i64 b) := HB.out.cell 3
          have hm1 : ((en : Int)) % (t : Int) = (tt : Int) := by rw [← htt]; rfl
          have g5 := G5.out
          have g5b := G5b.out
          have g10 := G10.out
          have g10b := G10b.out
          clear htt
          have xd := Lib.hid ((Ext.refl wr).drew)
          go_cut [12] (fun s12 wx => s12 = .int .i64 (tt : Int) ∧ Ext wr wx)
          case first =>
            clear HA HK HAb HEb HFb G5 G5b G6 G6b G8 G8b G9 G9b G10 G10b HP0 XK HB he7 HN2
            go_region_with (fail)
            all_goals
              go_wp2_with fail
              go_meet
              exact ⟨rfl, xd.out⟩
          case rest =>
          obtain ⟨rfl, xq⟩ := hcut
          go_upto_region 12 with fail
          clear g5 g5b g10 g10b xd
          have HAq := Lib.hid (HA.out.ext xq)
          have XQ := Lib.hid (XK.out.trans xq)
          clear xq HA XK HB y0 y1 y2 y3 hm0 hm1 p0
          generalize wc = wq at *
          obtain ⟨h0, e0⟩ : ∃ h0, hs[tt]? = some h0 := ⟨hs[tt]'(by rw [HN2.out]; exact htl), List.getElem?_eq_getElem _⟩
          have hlt2 : tt < hs.length := by rw [HN2.out]; exact htl
          have er : (hs.map LH.cells)[tt]? = some h0.cells := by rw [List.getElem?_map, e0]; rfl
          have eo : (hs.mapIdx LH.own)[tt]? = some (h0.own tt) := by rw [List.getElem?_mapIdx, e0]; rfl
          have hU := fun a => HAq.out.m.peekU a
          obtain ⟨hw0, h90⟩ := HK.out.each tt h0 e0
          obtain ⟨rd, hrd⟩ : ∃ rd, decide ((8 : Int) ≤ (fn : Int)) = rd := ⟨_, rfl⟩
          have hrd' : decide (8 ≤ fn) = rd := by rw [← hrd]; simp; omega
          have HSt := Lib.hid (fun W (x : Ext wq W) => handStep_ok (HAt.of (HAq.out.ext x) (rowsL_len hs) er eo) hw0 h90 (HK.out.ca.calm (by omega)) (k := j) (by omega) HK.out.fi (by omega) (an : Int) (by have := HAb.out; omega) j (by omega) rd)
          have HKs := Lib.hid (fun g => HK.out.step HN.out.1 HN.out.2 (by omega) (by omega) hU e0 (a := (an : Int)) (by have := HAb.out; omega) rd g)
          have E0 := Lib.hid e0
          have HLt := Lib.hid hlt2
          have p1 : wq.cell? (ad.add j) = some (.int .u16 zn) := HP0.out wq XQ.out
          have g6 := G6.out
          have g6b := G6b.out
          clear e0 hlt2 er eo hU hw0 h90
          have XT := Lib.hid (XQ.out.drew)
          have XR := Lib.hid ((Ext.refl wq).drew)
          go_region_held3 (fun W => W.cell? (ad.add j) = some (.int .u16 zn)) (first | exact HP0.out _ XT.out | go_keep) (first
            | (go_at_call 87; (with_reducible refine (HSt.out _ XR.out).mono ?_); rintro e w8 ⟨⟨u, rfl⟩, g8, hh⟩; replace XT := Lib.hid (X1.out.trans hh.m.m.lt.1); have H8 := Lib.hid hh; have K8 := Lib.hid (HKs.out g8)))
          all_goals
            go_wp2_with fail
            go_meet
            exact ⟨hs.set tt ((h0.next rd an (peekV sk an) j g8).step tt sk).1, _, by rw [List.length_set]; exact HN2.out, by rw [List.map_set, mapIdx_set9 _ _ _ _ HLt.out]; exact H8.out.m, K8.out⟩
      case rest =>
        obtain ⟨hs', sk', hlen, ha, hk⟩ := hcut
        generalize wc = wd at *
        have HA2 := Lib.hid ha
        have HK2 := Lib.hid hk
        have HDe := Lib.hid (memDevice_ok ha.m)
        obtain ⟨NN, hNN⟩ : ∃ NN, wN t s l b * 8 = NN := ⟨_, rfl⟩
        have hn28 : 28 < NN := by have := HN.out.1; omega
        have HKp := Lib.hid (ha.m.dev.keptA NN (by rw [hk.ki.ok.ok.n]; exact hNN))
        have HKl : Hid (sk'.dev.kept.length = NN) := Lib.hid (by rw [hk.ki.ok.k]; exact hNN)
        clear ha hk HA HK HB XK p0 HP0 G5 G5b G6 G6b G8 G8b G9 G9b G10 G10b he7 hNN
        go_wp2_with fail
        refine HDe.out.mono ?_
        rintro e w' ⟨rfl, rfl⟩
        go_wp2_with fail
        refine HKp.out.mono ?_
        rintro e w7 ⟨hwd, -⟩
        obtain ⟨gk, ck, rfl, -, -, hIk, xk, -, -⟩ := hwd
        have HIk := Lib.hid hIk
        have A7 := Lib.hid (HA2.out.ext xk)
        clear hIk xk HDe HKp HA2
        go_wp2_with fail
        go_loopw [14] (fun i wr => ∃ k : Nat, 20 ≤ k ∧ k ≤ 28 ∧ i = .int .i64 k ∧ Ext w7 wr) (fun i _ => 28 - (intOf i).toNat)
        case atStart => exact ⟨20, by omega, by omega, rfl, Ext.refl _⟩
        case round =>
          obtain ⟨k, hk0, hk1, rfl, xr⟩ := hrel
          have XR := Lib.hid xr
          clear xr
          by_cases hlk : k < 28
          · have d1 : decide (k < 28) = true := by simp; omega
            have d1' : decide ((k : Int) < 28) = true := by simp; omega
            have hpk := (A7.out.ext XR.out).m.peek (k : Int) (by omega) (by omega)
            have hW := (A7.out.m.peekU (k : Int))
            have HDi := Lib.hid (fun W => rdirty_any (peekV sk' (k : Int)) hW.1 hW.2 W)
            have hca := kept_at HK2.out k hk0 hlk
            obtain ⟨kz, hkz⟩ : ∃ kz, sk'.dev.kept.getD k 0 = kz := ⟨_, rfl⟩
            rw [hkz] at hca
            have hkW : W64 kz := by
              rw [← hkz]
              exact A7.out.m.keptU k
            have HCl : Hid (∀ W, Calls Tryz.prog 85 #[.int .u64 kz] W fun e w' => e = .returned (.int .u64 (clN kz)) ∧ Ext W w') := Lib.hid (fun W => rclean_any kz hkW.1 hkW.2 W)
            have HCe : Hid (∀ W, Ext wr W → W.cell? ⟨gk, k, none⟩ = some (.int .u64 kz)) := Lib.hid (fun W x => by
              obtain ⟨ad', e, _, hc⟩ := (HIk.out.ext (XR.out.trans x)) (by rw [HKl.out]; omega)
              injection e with e
              subst e
              have h2 := hc k (by rw [HKl.out]; omega)
              rw [at0, hkz] at h2
              exact h2)
            obtain ⟨pz, hpz⟩ : ∃ pz, peekV sk' (k : Int) = pz := ⟨_, rfl⟩
            obtain ⟨pb, hpb⟩ : ∃ pb, peekB sk' (k : Int) = pb := ⟨_, rfl⟩
            obtain ⟨db, hdb⟩ : ∃ db, BM.dirtyB pz = db := ⟨_, rfl⟩
            rw [hpz, hpb] at hpk
            rw [hpz] at HDi hca
            rw [hdb] at HDi hca
            have HPk := Lib.hid hpk
            have HCa := Lib.hid hca
            have d2 : decide ((NN : Int) ≤ (k : Int)) = false := by simp; omega
            have d2' : decide (NN ≤ k) = false := by simp; omega
            have d3 : decide ((k : Int) < (NN : Int)) = true := by simp; omega
            have d3' : decide (k < NN) = true := by simp; omega
            clear hpk hW hca hkz hkW hpz hpb hdb
            go_wp2_with fail
            refine HPk.out.mono ?_
            rintro e w' ⟨rfl, rfl⟩
            go_wp2_with fail
            refine (HDi.out _).mono ?_
            rintro e w8 ⟨rfl, x8⟩
            have X8 := Lib.hid x8
            clear x8 HPk HDi
            cases db
            · have hcz := HCa.out rfl
              rw [hcz] at HCl
              have dpp : (pz != pz) = false := by simp
              have c0 := HCe.out w8 X8.out
              clear hcz HCa
              go_wp2_with fail
              refine (HCl.out _).mono ?_
              rintro e w9 ⟨rfl, x9⟩
              have X9 := Lib.hid ((XR.out.trans X8.out).trans x9)
              clear x9 c0
              go_wp2_with fail
              go_roundw
              case rel => exact ⟨k + 1, by omega, by omega, by go_num, X9.out⟩
              case measure => simp [intOf]; omega
            · go_wp2_with fail
              go_roundw
              case rel => exact ⟨k + 1, by omega, by omega, by go_num, XR.out.trans X8.out⟩
              case measure => simp [intOf]; omega
          · have d1 : decide (k < 28) = false := by simp; omega
            have d1' : decide ((k : Int) < 28) = false := by simp; omega
            have A9 := Lib.hid (A7.out.ext XR.out)
            clear A7
            go_wp2_with fail
            go_roundw
            case rel => exact ⟨j + 1, hs', sk', by omega, by go_num, hlen, A9.out, HK2.out⟩
            case measure => simp [intOf]; omega
    · have v1 : decide (j < n) = false := by simp; omega
      go_wp2_with fail
      refine (awake13_ok _).mono ?_
      rintro e w5 ⟨rfl, x5⟩
      have X5 := Lib.hid (XK.out.trans x5)
      clear x5
      go_wp2_with fail
      go_ret
      exact ⟨rfl, X5.out⟩

set_option maxRecDepth 100000 in
set_option maxHeartbeats 4000000 in
theorem linkKept_no (w : World) (A : Option Addr) (n c : Nat) (t s l b : Int) (h : ¬ GrOk t s l b ∨ 300 < n) (hn : n ≤ 9223372036854775807) :
    Calls Tryz.prog 13 #[.agg #[.int .i64 t, .int .i64 s, .int .i64 l, .int .i64 b], .slice A n c] w fun e w' => e = .returned (.bool true) ∧ Ext w w' := by
  have X0 := Lib.hid ((Ext.refl w).alloc (.cells #[.int .i64 t, .int .i64 s, .int .i64 l, .int .i64 b] 23))
  by_cases hg : GrOk t s l b
  · have h3 : 300 < n := h.resolve_left (fun k => k hg)
    have HY := Lib.hid (fun W => few9_yes t s l b W hg)
    have d3 : decide (300 < n) = true := by simp; omega
    have d3' : decide ((300 : Int) < (n : Int)) = true := by simp; omega
    clear h hg
    go_enter Tryz.func13, Tryz.ntmps13
    go_wp2_with fail
    refine (HY.out _).mono ?_
    rintro e w1 ⟨rfl, x1⟩
    have X1 := Lib.hid (X0.out.trans x1)
    clear x1
    go_wp2_with fail
    refine (awake13_ok _).mono ?_
    rintro e w2 ⟨rfl, x2⟩
    have X2 := Lib.hid (X1.out.trans x2)
    clear x2
    go_wp2_with fail
    go_ret
    exact ⟨rfl, X2.out⟩
  · have HY := Lib.hid (fun W => few9_no t s l b W hg)
    clear h hg
    go_enter Tryz.func13, Tryz.ntmps13
    go_wp2_with fail
    refine (HY.out _).mono ?_
    rintro e w1 ⟨rfl, x1⟩
    have X1 := Lib.hid (X0.out.trans x1)
    clear x1
    go_wp2_with fail
    refine (awake13_ok _).mono ?_
    rintro e w2 ⟨rfl, x2⟩
    have X2 := Lib.hid (X1.out.trans x2)
    clear x2
    go_wp2_with fail
    go_ret
    exact ⟨rfl, X2.out⟩
theorem linkKept_walk (w : World) (t s l b : Int) (A : Option Addr) (n c : Nat) (zs : List Int) (hl : zs.length = n) (hn : n ≤ 9223372036854775807) (hA : Ints w .u16 A zs) (hz : Lim zs 65536) :
    Calls Tryz.prog 13 #[.agg #[.int .i64 t, .int .i64 s, .int .i64 l, .int .i64 b], .slice A n c] w fun e w' => e = .returned (.bool true) ∧ Ext w w' := by
  by_cases h : GrOk t s l b ∧ n ≤ 300
  · obtain ⟨hg, hn1⟩ := h
    obtain ⟨⟨q0, q1⟩, ⟨q2, q3⟩, ⟨q4, q5⟩, q6, q7⟩ := id hg.1
    obtain ⟨t', rfl⟩ := Int.eq_ofNat_of_zero_le (show 0 ≤ t by omega)
    obtain ⟨s', rfl⟩ := Int.eq_ofNat_of_zero_le (show 0 ≤ s by omega)
    obtain ⟨l', rfl⟩ := Int.eq_ofNat_of_zero_le (show 0 ≤ l by omega)
    obtain ⟨b', rfl⟩ := Int.eq_ofNat_of_zero_le (show 0 ≤ b by omega)
    exact linkKept_yes w A n c t' s' l' b' zs hl hn1 hA hz hg
  · exact linkKept_no w A n c t s l b (by
      by_cases hg : GrOk t s l b
      · exact Or.inr (by
          have : ¬ n ≤ 300 := fun h2 => h ⟨hg, h2⟩
          omega)
      · exact Or.inl hg) hn

namespace linkKept
set_option maxRecDepth 100000 in
theorem lifted (os : Os) (started : os.Started) (H : Type) (enc : TypeId × Value → H) :
    ReturnsInHanded {} Tryz.checked os 13 .any (Rows.linkKeptSpec.pre6 enc Tryz.prog Tryz.f13 Rows.linkKeptRow.domain false) (Rows.linkKeptSpec.post enc Tryz.prog Tryz.f13 false true false false) := by
  refine returnsInHanded_of_change (C := Tryz.checked) own started (by kernel_rfl) Tryz.func13
    (ChangeSpec.witness6 (enc := enc) (C := Tryz.checked) false ⟨#[], #[.agg #[.int .i64 0, .int .i64 0, .int .i64 0, .int .i64 0], .slice none 0 0], []⟩ 8 (by kernel_rfl) (by kernel_rfl) (by kernel_rfl) (by kernel_rfl)) ?_
  intro W base args ds gs before hval0 hW hcnd _
  have hval : ∀ (j : Nat) t v, Tryz.f13.params[j]? = some t → args[j]? = some v → Value.okWide Tryz.prog W .any base t v := hval0
  have hW' := hW
  obtain ⟨p, q, hA0, hV, rfl, hfz, hnd⟩ := hW
  have hA : DataW.TrodAll enc Tryz.prog W 0 (fun _ => true) true Tryz.f13.params.toList args.toList ds p := hA0
  have hlt : ∀ x ∈ p ++ q, x.block < W.heap.size := fun x hx => hW'.lt x hx
  rw [Tryz.params13] at hA hval
  have hB := hA
  obtain ⟨v0, vs0, d0, ds0, p0, q0, hargs, rfl, rfl, h0, r0⟩ := trodAll_cons hB
  obtain ⟨v1, vs1, d1, ds1, p1, q1, rfl, rfl, rfl, h1, r1⟩ := trodAll_cons r0
  obtain ⟨rfl, rfl, rfl⟩ := trodAll_nil r1
  obtain rfl : args = #[v0, v1] := by cases args; simp_all
  obtain ⟨rfl, rfl⟩ := trodVars_none hV
  obtain ⟨x0t, x0s, x0l, x0b, rfl, ok0⟩ := view_cfg Tryz.underlying23 (by kernel_rfl) (by kernel_rfl) Tryz.underlying3 Tryz.underlying3 Tryz.underlying3 Tryz.underlying3 (hval 0 23 v0 rfl rfl) h0
  obtain ⟨A1, c1, z1, rfl, lc1, mc1, I1, w1⟩ := view_ints Tryz.underlying133 Tryz.underlying135 (by kernel_rfl) (hval 1 133 v1 rfl rfl) h1
  clear hA0 hval0
  refine (linkKept_walk W x0t x0s x0l x0b A1 _ c1 z1 rfl (Nat.le_trans lc1 mc1) I1 (lim_u16 w1)).mono fun e W' ⟨he, hx⟩ => ?_
  subst he
  exact ⟨_, rfl, post_ext (pv := []) hW' (fun _ _ _ => (trodAll_cons_mk (shut_bool Tryz.underlying4 _) trodAll_mk0)) (fun sp hsp => trodAll_stays laid hx _ _ _ _ (readable_of (by kernel_rfl)) hA (fun x hx => hlt x (by first | (simp at hx ⊢; exact hx) | simp at hx)) (fun x hx => hsp x (by first | (simp at hx ⊢; exact hx) | simp at hx))) (fun _ _ => rfl) rfl hx (ok_one (by kernel_rfl) rfl (okWide_bool_mk Tryz.underlying4 _))⟩

theorem over : Rows.linkKeptRow.holds Tryz.pinned (OpenSpec.ofChange Rows.linkKeptSpec) :=
  OpenClaim.holds_of_wide 13 Tryz.f13 rfl rfl rfl rfl rfl rfl rfl ⟨rfl, rfl, rfl, rfl, rfl⟩ rfl rfl rfl rfl rfl (by kernel_rfl) Tryz.func13 linkKept_closed
    (of_decide_eq_true (by kernel_rfl)) (by unfold Func.isWrapper; first | (rw [if_pos (by decide +kernel)]; kernel_rfl) | (rw [if_neg (by decide +kernel)]; exact ⟨rfl, rfl⟩))
    (fun os started H enc _ => lifted os started H enc)
end linkKept

theorem linkKept_holds : Rows.LinkKeptSaid := linkKept.over
#print axioms linkKept_holds
end Go.Proofs.YtndplpfbohigpaaGreat
