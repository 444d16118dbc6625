/- What is done to a memory, step by step: a machine's step, or another one's act; read as it came in. Conditions: those that each theorem names. -/
import Derived.Test.YtbicloceaddinaaGreatKMemC
import Derived.Test.YtbicloceaddinaaGreatArgs
import Derived.Deep.Fields
import Derived.Deep.Slices
import Derived.Test.YtbicloceaddinaaGreatRPop
import Derived.Test.YtbicloceaddinaaGreatKFM
namespace Go.Proofs.YtbicloceaddinaaGreat
open Go.ChangeShapes Go.WideShapes Go.ChangeAt Go.RowKit Go.Deep
set_option linter.unusedVariables false
abbrev Pk7 := Bool × Act7
def noPk7 : Pk7 := (false, noAct7)
def Pk7.at (y : Pk7) (w : World) (p : Addr) : Prop := w.cell? p = some (.bool y.1) ∧ y.2.at w ⟨p.block, p.off + 1, none⟩
def Pokes (w : World) (A : Option Addr) (ys : List Pk7) : Prop := 0 < ys.length → ∃ ad, A = some ad ∧ ad.block < w.heap.size ∧ ∀ i, i < ys.length → Pk7.at (ys.getD i noPk7) w (ad.add (i * 6)) ∧ (ys.getD i noPk7).2.fit
theorem Pokes.ext {w w' : World} {A : Option Addr} {ys : List Pk7} (h : Pokes w A ys) (x : Ext w w') : Pokes w' A ys := fun h0 => by
  obtain ⟨ad, rfl, hb, hc⟩ := h h0
  refine ⟨ad, rfl, Nat.lt_of_lt_of_le hb x.size, fun i hi => ?_⟩
  obtain ⟨⟨b0, ⟨c0, c1, c2, c3, c4⟩⟩, hx⟩ := hc i hi
  have e : w'.heap[ad.block]? = w.heap[ad.block]? := x.block ad.block hb
  have e' : w'.heap[(ad.add (i * 6)).block]? = w.heap[(ad.add (i * 6)).block]? := by rw [add_block]; exact e
  have kk : ∀ q : Addr, q.block = (ad.add (i * 6)).block → w'.cell? q = w.cell? q := fun q hq => World.cell?_of_block (by rw [hq]; exact e')
  exact ⟨⟨(by refine Eq.trans (kk _ ?_) b0; rfl), ⟨(by refine Eq.trans (kk _ ?_) c0; rfl), (by refine Eq.trans (kk _ ?_) c1; rfl), (by refine Eq.trans (kk _ ?_) c2; rfl), (by refine Eq.trans (kk _ ?_) c3; rfl), (by refine Eq.trans (kk _ ?_) c4; rfl)⟩⟩, hx⟩
theorem choose_pokes {Q : Nat → Pk7 → Prop} : ∀ N, (∀ i, i < N → ∃ z, Q i z) → ∃ zs : List Pk7, zs.length = N ∧ ∀ i, i < N → Q i (zs.getD i noPk7) := by
  intro N
  induction N with
  | zero => intro _; exact ⟨[], rfl, fun i hi => absurd hi (by omega)⟩
  | succ N ih =>
    intro h
    obtain ⟨zs, hl, hz⟩ := ih fun i hi => h i (by omega)
    obtain ⟨z, hzN⟩ := h N (by omega)
    refine ⟨zs ++ [z], by simp [hl], fun i hi => ?_⟩
    by_cases hi' : i < N
    · rw [List.getD_eq_getElem?_getD, List.getElem?_append_left (by omega), ← List.getD_eq_getElem?_getD]
      exact hz i hi'
    · obtain rfl : i = N := by omega
      rw [List.getD_eq_getElem?_getD, List.getElem?_append_right (by omega), hl, Nat.sub_self]
      exact hzN
section
variable {H : Type} {enc : TypeId × Value → H} {P : Program}
theorem view_pokes {W : World} {t ty : TypeId} {fB fA f0 f1 f2 f3 f4 : Field} {v : Value} {d : DataW H} {p : List MemPlace} (hs : P.underlying t = some (.slice ty)) (hp : P.underlying ty = some (.struct #[fB, fA])) (hC : P.cellsOf ty = 6) (oB : fB.offset = 0) (kB : P.cellsOf fB.type = 1) (uB : P.underlying fB.type = some .bool) (oA : fA.offset = 1) (kA : P.cellsOf fA.type = 5)
    (ht : P.underlying fA.type = some (.struct #[f0, f1, f2, f3, f4])) (hone : oneCellFields P #[f0, f1, f2, f3, f4] = true)
    (u0 : P.underlying f0.type = some (.int .i64)) (u1 : P.underlying f1.type = some (.int .i64)) (u2 : P.underlying f2.type = some (.int .i64)) (u3 : P.underlying f3.type = some (.int .u64)) (u4 : P.underlying f4.type = some (.int .u64))
    {base : Nat} (hv : Value.okWide P W .any base t v) (h : DataW.Trod enc P W 0 (fun _ => true) true t v d p) :
    ∃ (A : Option Addr) (l c : Nat) (ys : List Pk7), v = .slice A l c ∧ l ≤ c ∧ c ≤ maxLen ∧ ys.length = l ∧ Pokes W A ys := by
  obtain ⟨a, l, c, rfl⟩ := okWide_slice hs hv
  obtain ⟨f, hf⟩ := h
  rcases open_slice hs hf with ⟨hcs, _⟩ | ⟨ad, len, cap, m, k, D, Pl, hcs, _, hl, hm, hmm, _, hi⟩
  · have e1 : Value.slice a l c = .slice none 0 0 := by
      have : [Value.slice a l c] = [.slice none 0 0] := hcs
      injection this
    rw [e1]
    exact ⟨none, 0, 0, [], rfl, Nat.le_refl _, by unfold maxLen; omega, rfl, fun h => absurd h (by decide)⟩
  · have e1 : Value.slice a l c = .slice (some ad) len cap := by
      have : [Value.slice a l c] = [.slice (some ad) len cap] := hcs
      injection this
    rw [e1]
    have hmc : m = cap := by simpa using hmm
    have key : ∀ i, i < len → ∃ z : Pk7, Pk7.at z W (ad.add (i * 6)) ∧ z.2.fit := fun i hilt => by
      obtain ⟨cs', hcells, htr⟩ := hi i (by omega)
      obtain ⟨_, hlen, hat⟩ := World.cells?_some hcells
      obtain ⟨y0, y1, n, _, hl2, h0, h1⟩ := trod_struct2 hp htr
      rw [hC] at hl2 hat
      rw [oB, kB] at h0
      rw [oA, kA] at h1
      match cs', hl2 with
      | [c0, c1, c2, c3, c4, c5], _ =>
        simp at h0 h1
        obtain ⟨bb, eb, _⟩ := DataW.trod_bool uB h0
        obtain ⟨k', t', l', a', x', hcs', ok⟩ := trod_act7 ht hone kA u0 u1 u2 u3 u4 h1
        injection eb with eb
        injection hcs' with e1 e
        injection e with e2 e
        injection e with e3 e
        injection e with e4 e
        injection e with e5 e
        subst eb e1 e2 e3 e4 e5
        have hj : ∀ j, j < 6 → W.cell? (ad.add (i * 6 + j)) = [Value.bool bb, .int .i64 k', .int .i64 t', .int .i64 l', .int .u64 a', .int .u64 x'][j]? := fun j hj => by
          have := hat j hj
          rw [Go.Deep.add_add] at this
          exact this
        have hq : ∀ j, 0 < j → j < 6 → W.cell? ⟨(ad.add (i * 6)).block, (ad.add (i * 6)).off + j, none⟩ = [Value.bool bb, .int .i64 k', .int .i64 t', .int .i64 l', .int .u64 a', .int .u64 x'][j]? := fun j h0 h5 => by
          rw [← add_spot _ _ _ h0]; exact hj j h5
        exact ⟨(bb, ⟨k', t', l', a', x'⟩), ⟨hj 0 (by omega), ⟨hq 1 (by omega) (by omega), hq 2 (by omega) (by omega), hq 3 (by omega) (by omega), hq 4 (by omega) (by omega), hq 5 (by omega) (by omega)⟩⟩, (wf_i64 ok.2.2.1).1, (wf_i64 ok.2.2.1).2, (wf_u64 ok.2.2.2.2).1, (wf_u64 ok.2.2.2.2).2⟩
    obtain ⟨ys, hal, ha⟩ := choose_pokes len key
    refine ⟨some ad, len, cap, ys, rfl, hl, hm, hal, fun h0 => ⟨ad, rfl, ?_, fun i hi => ha i (by omega)⟩⟩
    have := World.block_lt_of_cell? W (ad.add (0 * 6)) (ha 0 (by omega)).1.1
    rwa [add_block] at this
end
end Go.Proofs.YtbicloceaddinaaGreat


/- A machine of package free beside the document's: how they go together; memories behind acts. Conditions: those that each theorem names. -/
namespace Go.Proofs.YtbicloceaddinaaGreat
open Go.ChangeShapes Go.WideShapes Go.ChangeAt Go.RowKit
set_option linter.unusedVariables false
theorem act_calm {n : Int} {s : MSt} (h : CalmN n s) (kd t a z x : Int) : CalmN (n + 1) (s.act kd t a z x) := by
  unfold MSt.act
  split
  · exact h.load _ _
  split
  · exact h.store _ _ _
  split
  · exact h.swap _ _ _ _
  split
  · exact CalmN.note (s := s.withDev (s.dev.flush t (lineNo a))) h _ _
  split
  · exact CalmN.note (s := s.withDev (s.dev.fence t)) h _ _
  split
  · exact CalmN.mono (s := s.withDev (s.dev.evict a)) h (by omega)
  · exact CalmN.mono (s := s.crash) h (by omega)
theorem put_fine0 {k : Nat} {s : MSt} (h : Fine k s.dev) (a x : Int) : Fine k (s.put a x).dev := by
  unfold MSt.put
  split
  · show Fine k (s.dev.store a x)
    unfold DSt.store
    split
    · exact ⟨h.srt, h.rng, h.len, h.few⟩
    · exact h
  · exact h
theorem store_fine0 {k : Nat} {s : MSt} (h : Fine k s.dev) (t a x : Int) : Fine k (s.store t a x).dev := by
  unfold MSt.store
  split
  · exact put_fine0 h a x
  · exact h
theorem putAll_fine {k : Nat} : ∀ (s : MSt) (ys : List Put), Fine k s.dev → Fine k (putAll s ys).dev
  | _, [], h => h
  | s, y :: ys, h => putAll_fine (s.store 0 y.1 y.2) ys (store_fine0 h _ _ _)
theorem ground_fine (t s l b : Nat) (ys : List Put) : Fine 0 (groundSt t s l b ys).dev := putAll_fine _ _ (fine_new _ _ _)
theorem ground_calm (t s l b : Nat) (ys : List Put) (h : ys.length ≤ 100) : CalmN 100 (groundSt t s l b ys) := by
  have hc := putAll_calm (s := startSt t s l b) rfl rfl ys ys.length (Nat.le_refl _)
  rw [List.take_of_length_le (Nat.le_refl _)] at hc
  exact CalmN.mono hc (by omega)
/-- A Pop beside the document's. -/
structure Rel (x : PMs) (r : RPo) : Prop where
  xw : x.Wf
  rw : r.Wf
  line : r.line = if x.dn = true then 0 else x.part + 1
  top : r.top = x.top
  nx : x.part = 2 → toN r.nx = x.y
  slot : r.slot = if x.dn = true then toN x.top else -1
theorem Rel.step {F : Nat → Int} {t : Int} {x : PMs} {r : RPo} {s : MSt} (h : Rel x r) (hU : ∀ a, W64 (peekV s a)) : (rpopS F t r s).2 = (popS F t x s).2 ∧ Rel (popS F t x s).1 (rpopS F t r s).1 := by
  obtain ⟨part, top, y, dn⟩ := x
  obtain ⟨line, rtop, rnx, slot⟩ := r
  obtain ⟨hx, hr, hl, ht, hn, hs⟩ := h
  simp only at hl ht hn hs
  subst ht
  cases dn
  · have hl' : line = part + 1 := by simpa using hl
    have hs' : slot = -1 := by simpa using hs
    subst hl' hs'
    rcases hx.part with e | e | e
    · have e' : part = 0 := e
      subst e'
      have e1 : popS F t ⟨0, rtop, y, false⟩ s = (⟨1, peekV s (-2), y, toN (peekV s (-2)) == -1⟩, s.load t (-2)) := rfl
      have e2 : rpopS F t ⟨0 + 1, rtop, rnx, -1⟩ s = (⟨if toN (peekV s (-2)) < 0 then 0 else 2, peekV s (-2), rnx, -1⟩, s.load t (-2)) := rfl
      rw [e1, e2]
      have hv := hU (-2)
      have hr1 := toN_rng hv
      refine ⟨rfl, ⟨Or.inr (Or.inl rfl), hv, hx.y⟩, ⟨?_, hv, hr.nx⟩, ?_, rfl, fun e => by simp at e, ?_⟩
      · show (if toN (peekV s (-2)) < 0 then (0 : Int) else 2) = 0 ∨ _
        split
        · exact Or.inl rfl
        · exact Or.inr (Or.inr (Or.inl rfl))
      · show (if toN (peekV s (-2)) < 0 then (0 : Int) else 2) = if (toN (peekV s (-2)) == -1) = true then 0 else 1 + 1
        by_cases e : toN (peekV s (-2)) = -1
        · rw [if_pos (by omega), if_pos (by simp [e])]
        · rw [if_neg (by omega), if_neg (by simp [e])]
          rfl
      · show (-1 : Int) = if (toN (peekV s (-2)) == -1) = true then toN (peekV s (-2)) else -1
        by_cases e : toN (peekV s (-2)) = -1
        · rw [if_pos (by simp [e]), e]
        · rw [if_neg (by simp [e])]
    · have e' : part = 1 := e
      subst e'
      have e1 : popS F t ⟨1, rtop, y, false⟩ s = (⟨2, rtop, toN (peekV s (aft F (toN rtop))), false⟩, s.load t (aft F (toN rtop))) := rfl
      have e2 : rpopS F t ⟨1 + 1, rtop, rnx, -1⟩ s = (⟨3, rtop, peekV s (aft F (toN rtop)), -1⟩, s.load t (aft F (toN rtop))) := rfl
      rw [e1, e2]
      have hv := hU (aft F (toN rtop))
      have hr1 := toN_rng hv
      exact ⟨rfl, ⟨Or.inr (Or.inr rfl), hx.top, ⟨by show _ ≤ toN (peekV s (aft F (toN rtop))); omega, by show toN (peekV s (aft F (toN rtop))) < _; omega⟩⟩, ⟨Or.inr (Or.inr (Or.inr rfl)), hr.top, hv⟩, rfl, rfl, fun _ => rfl, rfl⟩
    · have e' : part = 2 := e
      subst e'
      have hy : toN rnx = y := hn rfl
      have e1 : popS F t ⟨2, rtop, y, false⟩ s = (⟨0, rtop, y, swapB s (-2) rtop⟩, s.swap t (-2) rtop (topN y (ver1 rtop))) := rfl
      have e2 : rpopS F t ⟨2 + 1, rtop, rnx, -1⟩ s = (if swapB s (-2) rtop = true then ⟨0, rtop, rnx, toN rtop⟩ else ⟨1, rtop, rnx, -1⟩, s.swap t (-2) rtop (topN (toN rnx) (ver1 rtop))) := rfl
      rw [e1, e2, hy]
      refine ⟨rfl, ?_⟩
      cases swapB s (-2) rtop
      · rw [if_neg (by decide)]
        exact ⟨⟨Or.inl rfl, hx.top, hx.y⟩, ⟨Or.inr (Or.inl rfl), hr.top, hr.nx⟩, rfl, rfl, fun e => by simp at e, rfl⟩
      · rw [if_pos rfl]
        exact ⟨⟨Or.inl rfl, hx.top, hx.y⟩, ⟨Or.inl rfl, hr.top, hr.nx⟩, rfl, rfl, fun e => by simp at e, rfl⟩
  · have hl' : line = 0 := by simpa using hl
    subst hl'
    have e1 : popS F t ⟨part, rtop, y, true⟩ s = (⟨part, rtop, y, true⟩, s) := rfl
    have e2 : rpopS F t ⟨0, rtop, rnx, slot⟩ s = (⟨0, rtop, rnx, slot⟩, s) := rfl
    rw [e1, e2]
    exact ⟨rfl, hx, hr, hl, rfl, hn, hs⟩
theorem Rel.zero : Rel ⟨0, 0, 0, false⟩ ⟨1, 0, 0, -1⟩ := ⟨PMs.wf0, ⟨Or.inr (Or.inl rfl), ⟨Int.le_refl 0, by show (0 : Int) < _; decide⟩, ⟨Int.le_refl 0, by show (0 : Int) < _; decide⟩⟩, rfl, rfl, fun e => by simp at e, rfl⟩
theorem Rel.lineB {x : PMs} {r : RPo} (h : Rel x r) : (r.line == 0) = x.dn := by
  have hl := h.line
  have hp := h.xw.part
  cases hd : x.dn
  · rw [hd, if_neg (by decide)] at hl
    rw [hl]
    rw [beq_eq_false_iff_ne]
    omega
  · rw [hd, if_pos rfl] at hl
    rw [hl]
    rfl
end Go.Proofs.YtbicloceaddinaaGreat

