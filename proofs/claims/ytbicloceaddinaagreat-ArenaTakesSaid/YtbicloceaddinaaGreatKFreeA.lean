/- Package free: what both machines do: the top is loaded, and swapped. Conditions: those that each theorem names. -/
import Derived.Test.YtbicloceaddinaaGreatKBase
import Derived.Test.YtbicloceaddinaaGreatLay9
import Derived.Test.YtbicloceaddinaaGreatKPmX
import Derived.Deep.RegionHeld3
namespace Go.Proofs.YtbicloceaddinaaGreat
open Go.ChangeShapes Go.WideShapes Go.ChangeAt Go.RowKit
set_option linter.unusedVariables false
/-- A number of a word of 64 bits. -/
def W64 (x : Int) : Prop := 0 ≤ x ∧ x < 18446744073709551616
def I64 (x : Int) : Prop := -9223372036854775808 ≤ x ∧ x < 9223372036854775808
/-- The slot that a word tells. -/
def toN (x : Int) : Int := x % 4294967296 - 1
def verN (x : Int) : Int := x / 4294967296
def topN (a v : Int) : Int := (a + 1) % 4294967296 + 4294967296 * v
/-- The version behind that of a top. -/
def ver1 (x : Int) : Int := (verN x + 1) % 4294967296
theorem toN_rng {x : Int} (h : W64 x) : -1 ≤ toN x ∧ toN x < 4294967295 := by unfold toN; have := h.1; omega
theorem verN_rng {x : Int} (h : W64 x) : 0 ≤ verN x ∧ verN x < 4294967296 := by unfold verN; have := h.1; have := h.2; omega
theorem ver1_rng (x : Int) : 0 ≤ ver1 x ∧ ver1 x < 4294967296 := by unfold ver1; omega
theorem topN_rng {a v : Int} (h : 0 ≤ v ∧ v < 4294967296) : W64 (topN a v) := by unfold topN W64; omega
section
variable {Q : Nat → Prop} {wb w0 w w' : World} {gm : Nat} {dv pv : Value} {s : MSt}
theorem lim_at {l : List Int} {m : Int} (h : Lim l m) (hm : 0 < m) (i : Nat) : 0 ≤ l.getD i 0 ∧ l.getD i 0 < m := by
  by_cases hi : i < l.length
  · exact h i hi
  · rw [List.getD_eq_getElem?_getD, List.getElem?_eq_none (by omega)]
    exact ⟨Int.le_refl _, hm⟩
theorem IsMem.seenLim (h : IsMem Q wb w0 w gm dv pv s) : Lim s.dev.seen 18446744073709551616 := by
  obtain ⟨D, -, hd, -⟩ := h.dev
  exact hd.ls
theorem IsMem.peekU (h : IsMem Q wb w0 w gm dv pv s) (a : Int) : W64 (peekV s a) := by
  unfold peekV
  split
  · unfold loadV
    first | exact lim_at h.seenLim (by decide) _ | (split <;> first | exact lim_at h.seenLim (by decide) _ | exact ⟨Int.le_refl _, by decide⟩)
  · exact lim_at h.ll (by decide) _
end
theorem u32w (x : Int) (h0 : 0 ≤ x) (h1 : x ≤ 4294967296) : IntKind.u32.wrap x = x % 4294967296 := by
  unfold IntKind.wrap
  simp [IntKind.signed, IntKind.bits]
theorem first_ok (w : World) (g : Nat) (top : Int) (ht : W64 top) (c3 : w.cell? ⟨g, 3, none⟩ = some (.int .u64 top)) :
    Calls Tryz.prog 163 #[.pointer (some ⟨g, 0, none⟩)] w fun e w' => e = .returned (.int .i64 (toN top)) ∧ Ext w w' := by
  have HT := Lib.hid (fun W => to_any top ht.1 ht.2 W)
  clear ht
  go_enter Tryz.func163, Tryz.ntmps163
  go_wp2_with fail
  refine (HT.out _).mono ?_
  rintro e w1 ⟨rfl, x1⟩
  have X1 := Lib.hid x1
  clear x1
  go_wp2_with fail
  go_ret
  exact ⟨rfl, X1.out⟩
/-- The cells of a machine: where, thread, part, top, done; and one of the Pop's, or the Push's, own. -/
def fcells (gl : Nat) (t part top : Int) (dn : Bool) (y : Int) : List Value := [.pointer (some ⟨gl, 0, none⟩), .int .i64 t, .int .i64 part, .int .u64 top, .bool dn, .int .i64 y]
section
variable {Q : Nat → Prop} {w0 w : World} {gm gp gl : Nat} {T : TypeId} {dv pv : Value} {s : MSt} {F : Nat → Int} {t part top y : Int} {dn : Bool}
set_option maxRecDepth 100000 in
set_option maxHeartbeats 4000000 in
theorem loadTop_ok (h : IsMem Q w w0 w gm dv pv s) (hc : Calm s) (hb : Blk w gp T (fcells gl t part top dn y)) (hl : Blk w gl 173 (cellsF F)) (hF : F 22 = -2) (qp : Q gp) (ql : Q gl) (p0 : w0.heap.size ≤ gp) :
    Calls Tryz.prog 199 #[.pointer (some ⟨gp, 0, none⟩), .pointer (some ⟨gm, 0, none⟩)] w fun e w' => (∃ u, e = .returned u) ∧ IsMem Q w' w0 w' gm dv pv (s.load t (-2)) ∧ Blk w' gp T (fcells gl t 1 (peekV s (-2)) dn y) ∧ (∀ b, Q b → b ≠ gp → w'.heap[b]? = w.heap[b]?) := by
  have HK : Hid (∀ W s', IsMem Q w w0 W gm dv pv s' → Blk W gp T (fcells gl t part top dn y) ∧ Blk W gl 173 (cellsF F)) := Lib.hid (fun W s' m => ⟨(m.keptQ gp qp).trans hb, (m.keptQ gl ql).trans hl⟩)
  have HP : Hid (∀ W s', IsMem Q w w0 W gm dv pv s' → W.cell? ⟨gp, 0, none⟩ = some (.pointer (some ⟨gl, 0, none⟩)) ∧ W.cell? ⟨gp, 1, none⟩ = some (.int .i64 t)) := Lib.hid (fun W s' m => ⟨((HK.out W s' m).1).cell 0, ((HK.out W s' m).1).cell 1⟩)
  have HP2 : Hid (∀ W s' u, IsMem Q w w0 W gm dv pv s' → (W.setCell ⟨gp, 3, none⟩ u).cell? ⟨gp, 0, none⟩ = some (.pointer (some ⟨gl, 0, none⟩)) ∧ (W.setCell ⟨gp, 3, none⟩ u).cell? ⟨gp, 1, none⟩ = some (.int .i64 t)) := Lib.hid (fun W s' u m => ⟨(((HK.out W s' m).1).set 3 u).cell 0, (((HK.out W s' m).1).set 3 u).cell 1⟩)
  have HFr : Hid (∀ W s', IsMem Q w w0 W gm dv pv s' → Calls Tryz.prog 221 #[.pointer (some ⟨gl, 0, none⟩)] W fun e w' => e = .returned (.int .i64 (-2)) ∧ Ext W w') := Lib.hid (fun W s' m => tFree_any (some ⟨gl, 0, none⟩) (cellsF F) (-2) W (Or.inl ⟨gl, rfl, (HK.out W s' m).2⟩) (by rw [cellsF_at F 22 (by decide), hF]))
  have HL : Hid (∀ W, IsMem Q w w0 W gm dv pv s → Calls Tryz.prog 69 #[.pointer (some ⟨gm, 0, none⟩), .int .i64 t, .int .i64 (-2)] W fun e w' => e = .returned (.int .u64 (peekV s (-2))) ∧ IsMem Q w w0 w' gm dv pv (s.load t (-2))) := Lib.hid (fun W m => memLoad_ok m t (-2) (by decide) (by decide) hc)
  have HE : Hid (∀ W, IsMem Q w w0 W gm dv pv (s.load t (-2)) → IsMem Q ((W.setCell ⟨gp, 3, none⟩ (.int .u64 (peekV s (-2)))).setCell ⟨gp, 2, none⟩ (.int .i64 1)) w0 ((W.setCell ⟨gp, 3, none⟩ (.int .u64 (peekV s (-2)))).setCell ⟨gp, 2, none⟩ (.int .i64 1)) gm dv pv (s.load t (-2)) ∧ Blk ((W.setCell ⟨gp, 3, none⟩ (.int .u64 (peekV s (-2)))).setCell ⟨gp, 2, none⟩ (.int .i64 1)) gp T (fcells gl t 1 (peekV s (-2)) dn y) ∧ (∀ b, Q b → b ≠ gp → ((W.setCell ⟨gp, 3, none⟩ (.int .u64 (peekV s (-2)))).setCell ⟨gp, 2, none⟩ (.int .i64 1)).heap[b]? = w.heap[b]?)) := Lib.hid (fun W m => by
    have f : Fr (fun b => b = gp) W ((W.setCell ⟨gp, 3, none⟩ (.int .u64 (peekV s (-2)))).setCell ⟨gp, 2, none⟩ (.int .i64 1)) := Fr.setCell (S := fun b => b = gp) (p := ⟨gp, 2, none⟩) (Fr.setCell (S := fun b => b = gp) (p := ⟨gp, 3, none⟩) (Fr.refl _ W) (Or.inl rfl) _) (Or.inl rfl) _
    refine ⟨m.turn f (fun b e => by rw [e]; exact qp) (fun b e => by rw [e]; exact p0), (((HK.out W _ m).1).set 3 _).set 2 _, fun b hb hne => ?_⟩
    exact (f.block b (m.lt.2 b hb) hne).trans (m.keptQ b hb))
  have M := Lib.hid (h.ext ((Ext.refl w).drew))
  generalize peekV s (-2) = v at *
  generalize s.load t (-2) = s1 at *
  have c0 : w.cell? ⟨gp, 0, none⟩ = some (.pointer (some ⟨gl, 0, none⟩)) := hb.cell 0
  clear h hb hl hF hc
  go_enter Tryz.func199, Tryz.ntmps199
  go_wp2_with fail
  go_region_held3 (fun W => W.cell? ⟨gp, 0, none⟩ = some (.pointer (some ⟨gl, 0, none⟩)) ∧ W.cell? ⟨gp, 1, none⟩ = some (.int .i64 t)) (first | exact HP.out _ _ M.out | exact HP2.out _ _ _ M.out | go_keep) (first
    | (go_at_call 221; refine (HFr.out _ _ M.out).mono ?_; rintro e w1 ⟨rfl, x1⟩; replace M := Lib.hid (M.out.ext x1); clear x1)
    | (go_at_call 69; refine (HL.out _ M.out).mono ?_; rintro e w1 ⟨rfl, m1⟩; replace M := Lib.hid m1; have y3 : w1.cell? ⟨gp, 3, none⟩ = some (.int .u64 top) := ((HK.out _ _ m1).1).cell 3; have z3 : w1.frozen? ⟨gp, 3, none⟩ = false := ((HK.out _ _ m1).1).frozen 3; clear m1))
  all_goals
    have y2 : w1.cell? ⟨gp, 2, none⟩ = some (.int .i64 part) := ((HK.out _ _ M.out).1).cell 2
    have z2 : w1.frozen? ⟨gp, 2, none⟩ = false := ((HK.out _ _ M.out).1).frozen 2
    go_wp2_with fail
    refine bodyPost_end (results_none rfl _ _ _) rfl ?_
    exact ⟨⟨_, rfl⟩, HE.out _ M.out⟩
set_option maxRecDepth 100000 in
set_option maxHeartbeats 4000000 in
theorem swapTop_ok (h : IsMem Q w w0 w gm dv pv s) (hc : Calm s) (a : Int) (ha : I64 a) (ht : W64 top) (hb : Blk w gp T (fcells gl t part top dn y)) (hl : Blk w gl 173 (cellsF F)) (hF : F 22 = -2) (qp : Q gp) (ql : Q gl) (p0 : w0.heap.size ≤ gp) :
    Calls Tryz.prog 201 #[.pointer (some ⟨gp, 0, none⟩), .pointer (some ⟨gm, 0, none⟩), .int .i64 a] w fun e w' => (∃ u, e = .returned u) ∧ IsMem Q w' w0 w' gm dv pv (s.swap t (-2) top (topN a (ver1 top))) ∧ Blk w' gp T (fcells gl t 0 top (swapB s (-2) top) y) ∧ (∀ b, Q b → b ≠ gp → w'.heap[b]? = w.heap[b]?) := by
  have HK : Hid (∀ W s', IsMem Q w w0 W gm dv pv s' → Blk W gp T (fcells gl t part top dn y) ∧ Blk W gl 173 (cellsF F)) := Lib.hid (fun W s' m => ⟨(m.keptQ gp qp).trans hb, (m.keptQ gl ql).trans hl⟩)
  have HP : Hid (∀ W s', IsMem Q w w0 W gm dv pv s' → W.cell? ⟨gp, 0, none⟩ = some (.pointer (some ⟨gl, 0, none⟩)) ∧ W.cell? ⟨gp, 1, none⟩ = some (.int .i64 t) ∧ W.cell? ⟨gp, 3, none⟩ = some (.int .u64 top)) := Lib.hid (fun W s' m => ⟨((HK.out W s' m).1).cell 0, ((HK.out W s' m).1).cell 1, ((HK.out W s' m).1).cell 3⟩)
  have HP2 : Hid (∀ W s' u, IsMem Q w w0 W gm dv pv s' → (W.setCell ⟨gp, 4, none⟩ u).cell? ⟨gp, 0, none⟩ = some (.pointer (some ⟨gl, 0, none⟩)) ∧ (W.setCell ⟨gp, 4, none⟩ u).cell? ⟨gp, 1, none⟩ = some (.int .i64 t) ∧ (W.setCell ⟨gp, 4, none⟩ u).cell? ⟨gp, 3, none⟩ = some (.int .u64 top)) := Lib.hid (fun W s' u m => ⟨(((HK.out W s' m).1).set 4 u).cell 0, (((HK.out W s' m).1).set 4 u).cell 1, (((HK.out W s' m).1).set 4 u).cell 3⟩)
  have HFr : Hid (∀ W s', IsMem Q w w0 W gm dv pv s' → Calls Tryz.prog 221 #[.pointer (some ⟨gl, 0, none⟩)] W fun e w' => e = .returned (.int .i64 (-2)) ∧ Ext W w') := Lib.hid (fun W s' m => tFree_any (some ⟨gl, 0, none⟩) (cellsF F) (-2) W (Or.inl ⟨gl, rfl, (HK.out W s' m).2⟩) (by rw [cellsF_at F 22 (by decide), hF]))
  have HV := Lib.hid (fun W => ver_any top ht.1 ht.2 W)
  have hv1 := ver1_rng top
  have HTp := Lib.hid (fun W => top_any a (ver1 top) ha.1 ha.2 hv1.1 hv1.2 W)
  have HL : Hid (∀ W, IsMem Q w w0 W gm dv pv s → Calls Tryz.prog 70 #[.pointer (some ⟨gm, 0, none⟩), .int .i64 t, .int .i64 (-2), .int .u64 top, .int .u64 (topN a (ver1 top))] W fun e w' => e = .returned (.bool (swapB s (-2) top)) ∧ IsMem Q w w0 w' gm dv pv (s.swap t (-2) top (topN a (ver1 top)))) := Lib.hid (fun W m => memSwap_ok m t (-2) top (topN a (ver1 top)) (by decide) (by decide) (topN_rng hv1) hc)
  have HE : Hid (∀ W s1 d, IsMem Q w w0 W gm dv pv s1 → IsMem Q ((W.setCell ⟨gp, 4, none⟩ (.bool d)).setCell ⟨gp, 2, none⟩ (.int .i64 0)) w0 ((W.setCell ⟨gp, 4, none⟩ (.bool d)).setCell ⟨gp, 2, none⟩ (.int .i64 0)) gm dv pv s1 ∧ Blk ((W.setCell ⟨gp, 4, none⟩ (.bool d)).setCell ⟨gp, 2, none⟩ (.int .i64 0)) gp T (fcells gl t 0 top d y) ∧ (∀ b, Q b → b ≠ gp → ((W.setCell ⟨gp, 4, none⟩ (.bool d)).setCell ⟨gp, 2, none⟩ (.int .i64 0)).heap[b]? = w.heap[b]?)) := Lib.hid (fun W s1 d m => by
    have f : Fr (fun b => b = gp) W ((W.setCell ⟨gp, 4, none⟩ (.bool d)).setCell ⟨gp, 2, none⟩ (.int .i64 0)) := Fr.setCell (S := fun b => b = gp) (p := ⟨gp, 2, none⟩) (Fr.setCell (S := fun b => b = gp) (p := ⟨gp, 4, none⟩) (Fr.refl _ W) (Or.inl rfl) _) (Or.inl rfl) _
    refine ⟨m.turn f (fun b e => by rw [e]; exact qp) (fun b e => by rw [e]; exact p0), (((HK.out W _ m).1).set 4 _).set 2 _, fun b hb hne => ?_⟩
    exact (f.block b (m.lt.2 b hb) hne).trans (m.keptQ b hb))
  have M0 := Lib.hid h
  have c3 : w.cell? ⟨gp, 3, none⟩ = some (.int .u64 top) := hb.cell 3
  have hv0 := verN_rng ht
  have hwr : IntKind.u32.wrap (verN top + 1) = ver1 top := by unfold ver1; exact u32w (verN top + 1) (by omega) (by omega)
  have e1 : top / 4294967296 = verN top := rfl
  rw [e1] at HV
  have e2 : (a + 1) % 4294967296 + 4294967296 * ver1 top = topN a (ver1 top) := rfl
  rw [e2] at HTp
  generalize topN a (ver1 top) = z at *
  generalize s.swap t (-2) top z = s1 at *
  generalize swapB s (-2) top = d at *
  generalize ver1 top = v1 at *
  generalize verN top = v0 at *
  clear h hb hl hF hc ht ha hv1 e1 e2 hv0
  go_enter Tryz.func201, Tryz.ntmps201
  go_wp2_with fail
  refine (HV.out _).mono ?_
  rintro e wa ⟨rfl, xa⟩
  have MA := Lib.hid (M0.out.ext xa)
  clear xa c3
  go_wp2_with fail
  refine (HTp.out _).mono ?_
  rintro e wb' ⟨rfl, xb⟩
  have M := Lib.hid ((MA.out.ext xb).ext ((Ext.refl _).drew))
  clear xb MA M0
  go_wp2_with fail
  go_region_held3 (fun W => W.cell? ⟨gp, 0, none⟩ = some (.pointer (some ⟨gl, 0, none⟩)) ∧ W.cell? ⟨gp, 1, none⟩ = some (.int .i64 t) ∧ W.cell? ⟨gp, 3, none⟩ = some (.int .u64 top)) (first | exact HP.out _ _ M.out | exact HP2.out _ _ _ M.out | go_keep) (first
    | (go_at_call 221; refine (HFr.out _ _ M.out).mono ?_; rintro e w1 ⟨rfl, x1⟩; replace M := Lib.hid (M.out.ext x1); clear x1)
    | (go_at_call 70; refine (HL.out _ M.out).mono ?_; rintro e w1 ⟨rfl, m1⟩; replace M := Lib.hid m1; have y4 : w1.cell? ⟨gp, 4, none⟩ = some (.bool dn) := ((HK.out _ _ m1).1).cell 4; have z4 : w1.frozen? ⟨gp, 4, none⟩ = false := ((HK.out _ _ m1).1).frozen 4; clear m1))
  all_goals
    have y2 : w1.cell? ⟨gp, 2, none⟩ = some (.int .i64 part) := ((HK.out _ _ M.out).1).cell 2
    have z2 : w1.frozen? ⟨gp, 2, none⟩ = false := ((HK.out _ _ M.out).1).frozen 2
    go_wp2_with fail
    refine bodyPost_end (results_none rfl _ _ _) rfl ?_
    exact ⟨⟨_, rfl⟩, HE.out _ _ _ M.out⟩
end
end Go.Proofs.YtbicloceaddinaaGreat


/- Package free: each step of a Pop and of a Push. Conditions: those that each theorem names. -/
namespace Go.Proofs.YtbicloceaddinaaGreat
open Go.ChangeShapes Go.WideShapes Go.ChangeAt Go.RowKit
set_option linter.unusedVariables false
/-- The word behind a slot. -/
def aft (F : Nat → Int) (n : Int) : Int := wordAt (F 4) (F 26) (F 27) (F 28) n 0
theorem wordAt_rng {v a d m n : Int} (h0 : 0 ≤ v) (h1 : v ≤ 1000000) (ha : Small a) (hd : -1000 ≤ d ∧ d ≤ 1000) (hm : m ≤ 65536) : -2000000000 ≤ wordAt v a d m n 0 ∧ wordAt v a d m n 0 ≤ 2000000000 := by
  unfold wordAt
  obtain ⟨a0, a1⟩ := ha
  split
  · rename_i h
    obtain ⟨d0, d1⟩ := hd
    obtain ⟨n0, n1⟩ := h
    have e1 : n * d ≤ n * 1000 := Int.mul_le_mul_of_nonneg_left d1 n0
    have e2 : n * (-1000) ≤ n * d := Int.mul_le_mul_of_nonneg_left d0 n0
    omega
  · omega
theorem aft_rng {F : Nat → Int} (ok : Okay F) (n : Int) : -9223372036854775808 ≤ aft F n ∧ aft F n < 9223372036854775808 := by
  have h : -2000000000 ≤ wordAt (F 4) (F 26) (F 27) (F 28) n 0 ∧ wordAt (F 4) (F 26) (F 27) (F 28) n 0 ≤ 2000000000 := wordAt_rng ok.v0 ok.v1 ok.r26.a ok.r26.d ok.r26.m
  unfold aft
  omega
theorem after_ok {F : Nat → Int} (ok : Okay F) (gl : Nat) (n : Int) (w : World) (hl : Blk w gl 173 (cellsF F)) :
    Calls Tryz.prog 200 #[.pointer (some ⟨gl, 0, none⟩), .int .i64 n] w fun e w' => e = .returned (.int .i64 (aft F n)) ∧ Ext w w' :=
  tAfter_any (some ⟨gl, 0, none⟩) (cellsF F) (F 4) (F 26) (F 27) (F 28) n w (Or.inl ⟨gl, rfl, hl⟩) (cellsF_at F 4 (by omega)) ok.v0 ok.v1 ok.r26.a ok.r26.d ok.r26.m (cellsF_at F 26 (by omega)) (cellsF_at F 27 (by omega)) (cellsF_at F 28 (by omega))
theorem IsMem.here {Q : Nat → Prop} {wb w0 w : World} {gm : Nat} {dv pv : Value} {s : MSt} (m : IsMem Q wb w0 w gm dv pv s) : IsMem Q w w0 w gm dv pv s :=
  m.fr (S := fun _ => False) m.lt.1 (Fr.refl _ w) (fun _ hs => hs.elim) (fun _ _ => rfl)
/-- What a machine's step leaves. -/
def StepPost (Q : Nat → Prop) (w0 w : World) (gm gp : Nat) (T : TypeId) (dv pv : Value) (s' : MSt) (r : Bool) (cs : List Value) (e : Ending) (w' : World) : Prop :=
  e = .returned (.bool r) ∧ IsMem Q w' w0 w' gm dv pv s' ∧ Blk w' gp T cs ∧ (∀ b, Q b → b ≠ gp → w'.heap[b]? = w.heap[b]?)
theorem i64w (x : Int) (h0 : -9223372036854775808 ≤ x) (h1 : x < 9223372036854775808) : IntKind.i64.wrap x = x := by
  unfold IntKind.wrap
  simp [IntKind.signed, IntKind.bits]
  omega
theorem u64w (x : Int) (h0 : 0 ≤ x) (h1 : x < 18446744073709551616) : IntKind.u64.wrap x = x := by
  unfold IntKind.wrap
  simp [IntKind.signed, IntKind.bits]
  omega
theorem popDone_ok (w : World) (g : Nat) (dn : Bool) (c4 : w.cell? ⟨g, 4, none⟩ = some (.bool dn)) :
    Calls Tryz.prog 198 #[.pointer (some ⟨g, 0, none⟩)] w fun e w' => e = .returned (.bool dn) ∧ w = w' := by
  go_enter Tryz.func198, Tryz.ntmps198
  go_wp2_with fail
  go_ret
  exact ⟨rfl, rfl⟩
section
variable {Q : Nat → Prop} {w0 w : World} {gm gp gl : Nat} {dv pv : Value} {s : MSt} {F : Nat → Int} {t part top y : Int}
set_option maxRecDepth 100000 in
set_option maxHeartbeats 4000000 in
theorem popStep_done (h : IsMem Q w w0 w gm dv pv s) (hc : Calm s) (ok : Okay F) (ht : W64 top) (hb : Blk w gp 217 (fcells gl t part top true y)) (hl : Blk w gl 173 (cellsF F)) (hF : F 22 = -2) (qp : Q gp) (ql : Q gl) (p0 : w0.heap.size ≤ gp)  :
    Calls Tryz.prog 157 #[.pointer (some ⟨gp, 0, none⟩), .pointer (some ⟨gm, 0, none⟩)] w (StepPost Q w0 w gm gp 217 dv pv (s) (true) (fcells gl t part top true y)) := by
  have c4 : w.cell? ⟨gp, 4, none⟩ = some (.bool true) := hb.cell 4
  have c2 : w.cell? ⟨gp, 2, none⟩ = some (.int .i64 part) := hb.cell 2
  have H := Lib.hid h
  have HB := Lib.hid hb
  clear h hb hl hF hc ht
  go_enter Tryz.func157, Tryz.ntmps157
  go_wp2_with fail
  refine (popDone_ok _ gp true c4).mono ?_
  rintro e w' ⟨rfl, rfl⟩
  go_wp2_with fail
  go_ret
  exact ⟨rfl, H.out, HB.out, fun _ _ _ => rfl⟩
set_option maxRecDepth 100000 in
set_option maxHeartbeats 4000000 in
theorem popStep_0 (h : IsMem Q w w0 w gm dv pv s) (hc : Calm s) (ok : Okay F) (ht : W64 top) (hb : Blk w gp 217 (fcells gl t 0 top false y)) (hl : Blk w gl 173 (cellsF F)) (hF : F 22 = -2) (qp : Q gp) (ql : Q gl) (p0 : w0.heap.size ≤ gp)  :
    Calls Tryz.prog 157 #[.pointer (some ⟨gp, 0, none⟩), .pointer (some ⟨gm, 0, none⟩)] w (StepPost Q w0 w gm gp 217 dv pv (s.load t (-2)) (toN (peekV s (-2)) == -1) (fcells gl t 1 (peekV s (-2)) (toN (peekV s (-2)) == -1) y)) := by
  have c4 : w.cell? ⟨gp, 4, none⟩ = some (.bool false) := hb.cell 4
  have c2 : w.cell? ⟨gp, 2, none⟩ = some (.int .i64 0) := hb.cell 2
  have HL := Lib.hid (loadTop_ok h hc hb hl hF qp ql p0)
  have hv := Lib.hid (h.peekU (-2))
  generalize peekV s (-2) = v at *
  generalize s.load t (-2) = s1 at *
  clear h hb hl hF hc ht
  go_enter Tryz.func157, Tryz.ntmps157
  go_wp2_with fail
  refine (popDone_ok _ gp false c4).mono ?_
  rintro e w' ⟨rfl, rfl⟩
  go_wp2_with fail
  refine HL.out.mono ?_
  rintro e w1 ⟨⟨u, rfl⟩, m1, b1, k1⟩
  have HFi := Lib.hid (first_ok w1 gp v hv.out (b1.cell 3))
  have M1 := Lib.hid m1
  have B1 := Lib.hid b1
  have K1 := Lib.hid k1
  clear m1 b1 k1 HL c4 c2
  generalize toN v = f at *
  go_wp2_with fail
  refine HFi.out.mono ?_
  rintro e w2 ⟨rfl, x2⟩
  have B2 := Lib.hid (B1.out.ext x2)
  have X2 := Lib.hid x2
  have c4 : w2.cell? ⟨gp, 4, none⟩ = some (.bool false) := B2.out.cell 4
  have z4 : w2.frozen? ⟨gp, 4, none⟩ = false := B2.out.frozen 4
  clear x2
  go_wp2_with fail
  go_ret
  have f : Fr (fun b => b = gp) w2 (w2.setCell ⟨gp, 4, none⟩ (.bool (f == -1))) := Fr.setCell (S := fun b => b = gp) (p := ⟨gp, 4, none⟩) (Fr.refl _ w2) (Or.inl rfl) _
  refine ⟨rfl, (M1.out.ext X2.out).turn f (fun b e => by rw [e]; exact qp) (fun b e => by rw [e]; exact p0), B2.out.set 4 _, fun b hb hne => ?_⟩
  exact ((f.block b ((M1.out.ext X2.out).lt.2 b hb) hne).trans (X2.out.block b (M1.out.lt.2 b hb))).trans (K1.out b hb hne)
set_option maxRecDepth 100000 in
set_option maxHeartbeats 4000000 in
theorem popStep_1 (h : IsMem Q w w0 w gm dv pv s) (hc : Calm s) (ok : Okay F) (ht : W64 top) (hb : Blk w gp 217 (fcells gl t 1 top false y)) (hl : Blk w gl 173 (cellsF F)) (hF : F 22 = -2) (qp : Q gp) (ql : Q gl) (p0 : w0.heap.size ≤ gp)  :
    Calls Tryz.prog 157 #[.pointer (some ⟨gp, 0, none⟩), .pointer (some ⟨gm, 0, none⟩)] w (StepPost Q w0 w gm gp 217 dv pv (s.load t (aft F (toN top))) (false) (fcells gl t 2 top false (toN (peekV s (aft F (toN top)))))) := by
  have c4 : w.cell? ⟨gp, 4, none⟩ = some (.bool false) := hb.cell 4
  have c2 : w.cell? ⟨gp, 2, none⟩ = some (.int .i64 1) := hb.cell 2
  have HK : Hid (∀ W s', IsMem Q w w0 W gm dv pv s' → Blk W gp 217 (fcells gl t 1 top false y) ∧ Blk W gl 173 (cellsF F)) := Lib.hid (fun W s' m => ⟨(m.keptQ gp qp).trans hb, (m.keptQ gl ql).trans hl⟩)
  have HP : Hid (∀ W s', IsMem Q w w0 W gm dv pv s' → W.cell? ⟨gp, 0, none⟩ = some (.pointer (some ⟨gl, 0, none⟩)) ∧ W.cell? ⟨gp, 1, none⟩ = some (.int .i64 t) ∧ W.cell? ⟨gp, 3, none⟩ = some (.int .u64 top)) := Lib.hid (fun W s' m => ⟨((HK.out W s' m).1).cell 0, ((HK.out W s' m).1).cell 1, ((HK.out W s' m).1).cell 3⟩)
  have HP2 : Hid (∀ W s' u, IsMem Q w w0 W gm dv pv s' → (W.setCell ⟨gp, 5, none⟩ u).cell? ⟨gp, 0, none⟩ = some (.pointer (some ⟨gl, 0, none⟩)) ∧ (W.setCell ⟨gp, 5, none⟩ u).cell? ⟨gp, 1, none⟩ = some (.int .i64 t) ∧ (W.setCell ⟨gp, 5, none⟩ u).cell? ⟨gp, 3, none⟩ = some (.int .u64 top)) := Lib.hid (fun W s' u m => ⟨(((HK.out W s' m).1).set 5 u).cell 0, (((HK.out W s' m).1).set 5 u).cell 1, (((HK.out W s' m).1).set 5 u).cell 3⟩)
  have HFi : Hid (∀ W s', IsMem Q w w0 W gm dv pv s' → Calls Tryz.prog 163 #[.pointer (some ⟨gp, 0, none⟩)] W fun e w' => e = .returned (.int .i64 (toN top)) ∧ Ext W w') := Lib.hid (fun W s' m => first_ok W gp top ht ((HK.out W s' m).1.cell 3))
  have HAf : Hid (∀ W s', IsMem Q w w0 W gm dv pv s' → Calls Tryz.prog 200 #[.pointer (some ⟨gl, 0, none⟩), .int .i64 (toN top)] W fun e w' => e = .returned (.int .i64 (aft F (toN top))) ∧ Ext W w') := Lib.hid (fun W s' m => after_ok ok gl (toN top) W (HK.out W s' m).2)
  have har := aft_rng ok (toN top)
  have HL : Hid (∀ W, IsMem Q w w0 W gm dv pv s → Calls Tryz.prog 69 #[.pointer (some ⟨gm, 0, none⟩), .int .i64 t, .int .i64 (aft F (toN top))] W fun e w' => e = .returned (.int .u64 (peekV s (aft F (toN top)))) ∧ IsMem Q w w0 w' gm dv pv (s.load t (aft F (toN top)))) := Lib.hid (fun W m => memLoad_ok m t _ har.1 har.2 hc)
  have hv := h.peekU (aft F (toN top))
  have HTo := Lib.hid (fun W => to_any (peekV s (aft F (toN top))) hv.1 hv.2 W)
  have e1 : peekV s (aft F (toN top)) % 4294967296 - 1 = toN (peekV s (aft F (toN top))) := rfl
  rw [e1] at HTo
  have M := Lib.hid (h.ext ((Ext.refl w).drew))
  clear e1 hv har
  generalize toN (peekV s (aft F (toN top))) = nv at *
  generalize peekV s (aft F (toN top)) = v at *
  generalize s.load t (aft F (toN top)) = s1 at *
  generalize aft F (toN top) = a at *
  generalize toN top = f at *
  have c0 : w.cell? ⟨gp, 0, none⟩ = some (.pointer (some ⟨gl, 0, none⟩)) := hb.cell 0
  clear h hb hl hF hc ht ok
  go_enter Tryz.func157, Tryz.ntmps157
  go_wp2_with fail
  refine (popDone_ok _ gp false c4).mono ?_
  rintro e w' ⟨rfl, rfl⟩
  go_wp2_with fail
  go_region_held3 (fun W => W.cell? ⟨gp, 0, none⟩ = some (.pointer (some ⟨gl, 0, none⟩)) ∧ W.cell? ⟨gp, 1, none⟩ = some (.int .i64 t) ∧ W.cell? ⟨gp, 3, none⟩ = some (.int .u64 top)) (first | exact HP.out _ _ M.out | exact HP2.out _ _ _ M.out | go_keep) (first
    | (go_at_call 163; refine (HFi.out _ _ M.out).mono ?_; rintro e w1 ⟨rfl, x1⟩; replace M := Lib.hid (M.out.ext x1); clear x1)
    | (go_at_call 200; refine (HAf.out _ _ M.out).mono ?_; rintro e w1 ⟨rfl, x1⟩; replace M := Lib.hid (M.out.ext x1); clear x1)
    | (go_at_call 69; refine (HL.out _ M.out).mono ?_; rintro e w1 ⟨rfl, m1⟩; replace M := Lib.hid m1; clear m1)
    | (go_at_call 129; refine (HTo.out _).mono ?_; rintro e w1 ⟨rfl, x1⟩; replace M := Lib.hid (M.out.ext x1); have y5 : w1.cell? ⟨gp, 5, none⟩ = some (.int .i64 y) := ((HK.out _ _ M.out).1).cell 5; have z5 : w1.frozen? ⟨gp, 5, none⟩ = false := ((HK.out _ _ M.out).1).frozen 5; clear x1))
  all_goals
    have y2 : w1.cell? ⟨gp, 2, none⟩ = some (.int .i64 1) := ((HK.out _ _ M.out).1).cell 2
    have y4 : w1.cell? ⟨gp, 4, none⟩ = some (.bool false) := ((HK.out _ _ M.out).1).cell 4
    have z2 : w1.frozen? ⟨gp, 2, none⟩ = false := ((HK.out _ _ M.out).1).frozen 2
    go_wp2_with fail
    go_ret
    have f : Fr (fun b => b = gp) w1 ((w1.setCell ⟨gp, 5, none⟩ (.int .i64 nv)).setCell ⟨gp, 2, none⟩ (.int .i64 2)) := Fr.setCell (S := fun b => b = gp) (p := ⟨gp, 2, none⟩) (Fr.setCell (S := fun b => b = gp) (p := ⟨gp, 5, none⟩) (Fr.refl _ w1) (Or.inl rfl) _) (Or.inl rfl) _
    refine ⟨rfl, M.out.turn f (fun b e => by rw [e]; exact qp) (fun b e => by rw [e]; exact p0), (((HK.out _ _ M.out).1).set 5 _).set 2 _, fun b hb hne => ?_⟩
    exact (f.block b (M.out.lt.2 b hb) hne).trans (M.out.keptQ b hb)
set_option maxRecDepth 100000 in
set_option maxHeartbeats 4000000 in
theorem popStep_2 (h : IsMem Q w w0 w gm dv pv s) (hc : Calm s) (ok : Okay F) (ht : W64 top) (hb : Blk w gp 217 (fcells gl t 2 top false y)) (hl : Blk w gl 173 (cellsF F)) (hF : F 22 = -2) (qp : Q gp) (ql : Q gl) (p0 : w0.heap.size ≤ gp) (hy : I64 y) :
    Calls Tryz.prog 157 #[.pointer (some ⟨gp, 0, none⟩), .pointer (some ⟨gm, 0, none⟩)] w (StepPost Q w0 w gm gp 217 dv pv (s.swap t (-2) top (topN y (ver1 top))) (swapB s (-2) top) (fcells gl t 0 top (swapB s (-2) top) y)) := by
  have c4 : w.cell? ⟨gp, 4, none⟩ = some (.bool false) := hb.cell 4
  have c2 : w.cell? ⟨gp, 2, none⟩ = some (.int .i64 2) := hb.cell 2
  have HK : Hid (∀ W s', IsMem Q w w0 W gm dv pv s' → Blk W gp 217 (fcells gl t 2 top false y) ∧ Blk W gl 173 (cellsF F)) := Lib.hid (fun W s' m => ⟨(m.keptQ gp qp).trans hb, (m.keptQ gl ql).trans hl⟩)
  have HSw : Hid (∀ W, IsMem Q w w0 W gm dv pv s → Calls Tryz.prog 201 #[.pointer (some ⟨gp, 0, none⟩), .pointer (some ⟨gm, 0, none⟩), .int .i64 y] W fun e w' => (∃ u, e = .returned u) ∧ IsMem Q w' w0 w' gm dv pv (s.swap t (-2) top (topN y (ver1 top))) ∧ Blk w' gp 217 (fcells gl t 0 top (swapB s (-2) top) y) ∧ (∀ b, Q b → b ≠ gp → w'.heap[b]? = w.heap[b]?)) := Lib.hid (fun W m => (swapTop_ok m.here hc y hy ht (HK.out W s m).1 (HK.out W s m).2 hF qp ql p0).mono fun e w' hh => ⟨hh.1, hh.2.1, hh.2.2.1, fun b hb hne => (hh.2.2.2 b hb hne).trans (m.keptQ b hb)⟩)
  have HP : Hid (∀ W s', IsMem Q w w0 W gm dv pv s' → W.cell? ⟨gp, 5, none⟩ = some (.int .i64 y)) := Lib.hid (fun W s' m => ((HK.out W s' m).1).cell 5)
  have M := Lib.hid (h.ext ((Ext.refl w).drew))
  generalize s.swap t (-2) top (topN y (ver1 top)) = s1 at *
  generalize swapB s (-2) top = d at *
  have c5 : w.cell? ⟨gp, 5, none⟩ = some (.int .i64 y) := hb.cell 5
  clear h hb hl hF hc ht ok
  go_enter Tryz.func157, Tryz.ntmps157
  go_wp2_with fail
  refine (popDone_ok _ gp false c4).mono ?_
  rintro e w' ⟨rfl, rfl⟩
  go_wp2_with fail
  go_region_held3 (fun W => W.cell? ⟨gp, 5, none⟩ = some (.int .i64 y)) (first | exact HP.out _ _ M.out | exact B1.out.cell 5 | go_keep) (first
    | (go_at_call 201; refine (HSw.out _ M.out).mono ?_; rintro e w1 ⟨⟨u, rfl⟩, m1, b1, k1⟩; have M1 := Lib.hid m1; have B1 := Lib.hid b1; have K1 := Lib.hid k1; clear m1 b1 k1))
  all_goals
    have y4 : w1.cell? ⟨gp, 4, none⟩ = some (.bool d) := B1.out.cell 4
    go_wp2_with fail
    go_ret
    exact ⟨rfl, M1.out, B1.out, K1.out⟩
end
theorem pushDone_ok (w : World) (g : Nat) (dn : Bool) (c4 : w.cell? ⟨g, 4, none⟩ = some (.bool dn)) :
    Calls Tryz.prog 216 #[.pointer (some ⟨g, 0, none⟩)] w fun e w' => e = .returned (.bool dn) ∧ w = w' := by
  go_enter Tryz.func216, Tryz.ntmps216
  go_wp2_with fail
  go_ret
  exact ⟨rfl, rfl⟩
section
variable {Q : Nat → Prop} {w0 w : World} {gm gp gl : Nat} {dv pv : Value} {s : MSt} {F : Nat → Int} {t part top y : Int}
set_option maxRecDepth 100000 in
set_option maxHeartbeats 4000000 in
theorem pushStep_done (h : IsMem Q w w0 w gm dv pv s) (hc : Calm s) (ok : Okay F) (ht : W64 top) (hb : Blk w gp 259 (fcells gl t part top true y)) (hl : Blk w gl 173 (cellsF F)) (hF : F 22 = -2) (qp : Q gp) (ql : Q gl) (p0 : w0.heap.size ≤ gp)  :
    Calls Tryz.prog 189 #[.pointer (some ⟨gp, 0, none⟩), .pointer (some ⟨gm, 0, none⟩)] w (StepPost Q w0 w gm gp 259 dv pv (s) (true) (fcells gl t part top true y)) := by
  have c4 : w.cell? ⟨gp, 4, none⟩ = some (.bool true) := hb.cell 4
  have c2 : w.cell? ⟨gp, 2, none⟩ = some (.int .i64 part) := hb.cell 2
  have H := Lib.hid h
  have HB := Lib.hid hb
  clear h hb hl hF hc ht
  go_enter Tryz.func189, Tryz.ntmps189
  go_wp2_with fail
  refine (pushDone_ok _ gp true c4).mono ?_
  rintro e w' ⟨rfl, rfl⟩
  go_wp2_with fail
  go_ret
  exact ⟨rfl, H.out, HB.out, fun _ _ _ => rfl⟩
set_option maxRecDepth 100000 in
set_option maxHeartbeats 4000000 in
theorem pushStep_0 (h : IsMem Q w w0 w gm dv pv s) (hc : Calm s) (ok : Okay F) (ht : W64 top) (hb : Blk w gp 259 (fcells gl t 0 top false y)) (hl : Blk w gl 173 (cellsF F)) (hF : F 22 = -2) (qp : Q gp) (ql : Q gl) (p0 : w0.heap.size ≤ gp)  :
    Calls Tryz.prog 189 #[.pointer (some ⟨gp, 0, none⟩), .pointer (some ⟨gm, 0, none⟩)] w (StepPost Q w0 w gm gp 259 dv pv (s.load t (-2)) (false) (fcells gl t 1 (peekV s (-2)) false y)) := by
  have c4 : w.cell? ⟨gp, 4, none⟩ = some (.bool false) := hb.cell 4
  have c2 : w.cell? ⟨gp, 2, none⟩ = some (.int .i64 0) := hb.cell 2
  have HL := Lib.hid (loadTop_ok h hc hb hl hF qp ql p0)
  generalize peekV s (-2) = v at *
  generalize s.load t (-2) = s1 at *
  clear h hb hl hF hc ht
  go_enter Tryz.func189, Tryz.ntmps189
  go_wp2_with fail
  refine (pushDone_ok _ gp false c4).mono ?_
  rintro e w' ⟨rfl, rfl⟩
  go_wp2_with fail
  refine HL.out.mono ?_
  rintro e w1 ⟨⟨u, rfl⟩, m1, b1, k1⟩
  have M1 := Lib.hid m1
  have B1 := Lib.hid b1
  have K1 := Lib.hid k1
  clear m1 b1 k1 HL c4 c2
  have c4 : w1.cell? ⟨gp, 4, none⟩ = some (.bool false) := B1.out.cell 4
  go_wp2_with fail
  go_ret
  exact ⟨rfl, M1.out, B1.out, K1.out⟩
set_option maxRecDepth 100000 in
set_option maxHeartbeats 4000000 in
theorem pushStep_1 (h : IsMem Q w w0 w gm dv pv s) (hc : Calm s) (ok : Okay F) (ht : W64 top) (hb : Blk w gp 259 (fcells gl t 1 top false y)) (hl : Blk w gl 173 (cellsF F)) (hF : F 22 = -2) (qp : Q gp) (ql : Q gl) (p0 : w0.heap.size ≤ gp)  :
    Calls Tryz.prog 189 #[.pointer (some ⟨gp, 0, none⟩), .pointer (some ⟨gm, 0, none⟩)] w (StepPost Q w0 w gm gp 259 dv pv (s.store t (aft F y) (toN top + 1)) (false) (fcells gl t 2 top false y)) := by
  have c4 : w.cell? ⟨gp, 4, none⟩ = some (.bool false) := hb.cell 4
  have c2 : w.cell? ⟨gp, 2, none⟩ = some (.int .i64 1) := hb.cell 2
  have HK : Hid (∀ W s', IsMem Q w w0 W gm dv pv s' → Blk W gp 259 (fcells gl t 1 top false y) ∧ Blk W gl 173 (cellsF F)) := Lib.hid (fun W s' m => ⟨(m.keptQ gp qp).trans hb, (m.keptQ gl ql).trans hl⟩)
  have HP : Hid (∀ W s', IsMem Q w w0 W gm dv pv s' → W.cell? ⟨gp, 0, none⟩ = some (.pointer (some ⟨gl, 0, none⟩)) ∧ W.cell? ⟨gp, 1, none⟩ = some (.int .i64 t) ∧ W.cell? ⟨gp, 5, none⟩ = some (.int .i64 y)) := Lib.hid (fun W s' m => ⟨((HK.out W s' m).1).cell 0, ((HK.out W s' m).1).cell 1, ((HK.out W s' m).1).cell 5⟩)
  have HFi : Hid (∀ W s', IsMem Q w w0 W gm dv pv s' → Calls Tryz.prog 163 #[.pointer (some ⟨gp, 0, none⟩)] W fun e w' => e = .returned (.int .i64 (toN top)) ∧ Ext W w') := Lib.hid (fun W s' m => first_ok W gp top ht ((HK.out W s' m).1.cell 3))
  have HAf : Hid (∀ W s', IsMem Q w w0 W gm dv pv s' → Calls Tryz.prog 200 #[.pointer (some ⟨gl, 0, none⟩), .int .i64 y] W fun e w' => e = .returned (.int .i64 (aft F y)) ∧ Ext W w') := Lib.hid (fun W s' m => after_ok ok gl y W (HK.out W s' m).2)
  have har := aft_rng ok y
  have htr := toN_rng ht
  have HL : Hid (∀ W, IsMem Q w w0 W gm dv pv s → Calls Tryz.prog 49 #[.pointer (some ⟨gm, 0, none⟩), .int .i64 t, .int .i64 (aft F y), .int .u64 (toN top + 1)] W fun e w' => (∃ u, e = .returned u) ∧ IsMem Q w w0 w' gm dv pv (s.store t (aft F y) (toN top + 1))) := Lib.hid (fun W m => memStore_ok m t _ _ har.1 har.2 (by omega) hc)
  have M := Lib.hid (h.ext ((Ext.refl w).drew))
  clear har
  generalize s.store t (aft F y) (toN top + 1) = s1 at *
  generalize aft F y = a at *
  generalize toN top = f at *
  have c0 : w.cell? ⟨gp, 0, none⟩ = some (.pointer (some ⟨gl, 0, none⟩)) := hb.cell 0
  have w1 : IntKind.i64.wrap (f + 1) = f + 1 := i64w _ (by omega) (by omega)
  have w2 : IntKind.u64.wrap (f + 1) = f + 1 := u64w _ (by omega) (by omega)
  clear h hb hl hF hc ht ok htr
  go_enter Tryz.func189, Tryz.ntmps189
  go_wp2_with fail
  refine (pushDone_ok _ gp false c4).mono ?_
  rintro e w' ⟨rfl, rfl⟩
  go_wp2_with fail
  go_region_held3 (fun W => W.cell? ⟨gp, 0, none⟩ = some (.pointer (some ⟨gl, 0, none⟩)) ∧ W.cell? ⟨gp, 1, none⟩ = some (.int .i64 t) ∧ W.cell? ⟨gp, 5, none⟩ = some (.int .i64 y)) (first | exact HP.out _ _ M.out | go_keep) (first
    | (go_at_call 163; refine (HFi.out _ _ M.out).mono ?_; rintro e w1 ⟨rfl, x1⟩; replace M := Lib.hid (M.out.ext x1); clear x1)
    | (go_at_call 200; refine (HAf.out _ _ M.out).mono ?_; rintro e w1 ⟨rfl, x1⟩; replace M := Lib.hid (M.out.ext x1); clear x1)
    | (go_at_call 49; refine (HL.out _ M.out).mono ?_; rintro e w1 ⟨⟨u, rfl⟩, m1⟩; replace M := Lib.hid m1; clear m1))
  all_goals
    have y2 : w1.cell? ⟨gp, 2, none⟩ = some (.int .i64 1) := ((HK.out _ _ M.out).1).cell 2
    have y4 : w1.cell? ⟨gp, 4, none⟩ = some (.bool false) := ((HK.out _ _ M.out).1).cell 4
    have z2 : w1.frozen? ⟨gp, 2, none⟩ = false := ((HK.out _ _ M.out).1).frozen 2
    go_wp2_with fail
    go_ret
    have f : Fr (fun b => b = gp) w1 (w1.setCell ⟨gp, 2, none⟩ (.int .i64 2)) := Fr.setCell (S := fun b => b = gp) (p := ⟨gp, 2, none⟩) (Fr.refl _ w1) (Or.inl rfl) _
    refine ⟨rfl, M.out.turn f (fun b e => by rw [e]; exact qp) (fun b e => by rw [e]; exact p0), ((HK.out _ _ M.out).1).set 2 _, fun b hb hne => ?_⟩
    exact (f.block b (M.out.lt.2 b hb) hne).trans (M.out.keptQ b hb)
set_option maxRecDepth 100000 in
set_option maxHeartbeats 4000000 in
theorem pushStep_2 (h : IsMem Q w w0 w gm dv pv s) (hc : Calm s) (ok : Okay F) (ht : W64 top) (hb : Blk w gp 259 (fcells gl t 2 top false y)) (hl : Blk w gl 173 (cellsF F)) (hF : F 22 = -2) (qp : Q gp) (ql : Q gl) (p0 : w0.heap.size ≤ gp) (hy : I64 y) :
    Calls Tryz.prog 189 #[.pointer (some ⟨gp, 0, none⟩), .pointer (some ⟨gm, 0, none⟩)] w (StepPost Q w0 w gm gp 259 dv pv (s.swap t (-2) top (topN y (ver1 top))) (swapB s (-2) top) (fcells gl t 0 top (swapB s (-2) top) y)) := by
  have c4 : w.cell? ⟨gp, 4, none⟩ = some (.bool false) := hb.cell 4
  have c2 : w.cell? ⟨gp, 2, none⟩ = some (.int .i64 2) := hb.cell 2
  have HK : Hid (∀ W s', IsMem Q w w0 W gm dv pv s' → Blk W gp 259 (fcells gl t 2 top false y) ∧ Blk W gl 173 (cellsF F)) := Lib.hid (fun W s' m => ⟨(m.keptQ gp qp).trans hb, (m.keptQ gl ql).trans hl⟩)
  have HSw : Hid (∀ W, IsMem Q w w0 W gm dv pv s → Calls Tryz.prog 201 #[.pointer (some ⟨gp, 0, none⟩), .pointer (some ⟨gm, 0, none⟩), .int .i64 y] W fun e w' => (∃ u, e = .returned u) ∧ IsMem Q w' w0 w' gm dv pv (s.swap t (-2) top (topN y (ver1 top))) ∧ Blk w' gp 259 (fcells gl t 0 top (swapB s (-2) top) y) ∧ (∀ b, Q b → b ≠ gp → w'.heap[b]? = w.heap[b]?)) := Lib.hid (fun W m => (swapTop_ok m.here hc y hy ht (HK.out W s m).1 (HK.out W s m).2 hF qp ql p0).mono fun e w' hh => ⟨hh.1, hh.2.1, hh.2.2.1, fun b hb hne => (hh.2.2.2 b hb hne).trans (m.keptQ b hb)⟩)
  have HP : Hid (∀ W s', IsMem Q w w0 W gm dv pv s' → W.cell? ⟨gp, 5, none⟩ = some (.int .i64 y)) := Lib.hid (fun W s' m => ((HK.out W s' m).1).cell 5)
  have M := Lib.hid (h.ext ((Ext.refl w).drew))
  generalize s.swap t (-2) top (topN y (ver1 top)) = s1 at *
  generalize swapB s (-2) top = d at *
  have c5 : w.cell? ⟨gp, 5, none⟩ = some (.int .i64 y) := hb.cell 5
  clear h hb hl hF hc ht ok
  go_enter Tryz.func189, Tryz.ntmps189
  go_wp2_with fail
  refine (pushDone_ok _ gp false c4).mono ?_
  rintro e w' ⟨rfl, rfl⟩
  go_wp2_with fail
  go_region_held3 (fun W => W.cell? ⟨gp, 5, none⟩ = some (.int .i64 y)) (first | exact HP.out _ _ M.out | exact B1.out.cell 5 | go_keep) (first
    | (go_at_call 201; refine (HSw.out _ M.out).mono ?_; rintro e w1 ⟨⟨u, rfl⟩, m1, b1, k1⟩; have M1 := Lib.hid m1; have B1 := Lib.hid b1; have K1 := Lib.hid k1; clear m1 b1 k1))
  all_goals
    have y4 : w1.cell? ⟨gp, 4, none⟩ = some (.bool d) := B1.out.cell 4
    go_wp2_with fail
    go_ret
    exact ⟨rfl, M1.out, B1.out, K1.out⟩
end
end Go.Proofs.YtbicloceaddinaaGreat

