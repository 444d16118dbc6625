/- Which configs the grounds have. Conditions: those that each theorem names. -/
import Derived.Test.YtolengkegjipaaaGreatLay9
import Derived.Test.YtolengkegjipaaaGreatKNm
import Derived.Test.YtolengkegjipaaaGreatKMemC
namespace Go.Proofs.YtolengkegjipaaaGreat
open Go.ChangeShapes Go.WideShapes Go.ChangeAt Go.RowKit
set_option linter.unusedVariables false
def GrOk (t s l b : Int) : Prop := CfgOk t s l b ∧ t ≤ 6 ∧ s ≤ 30 ∧ l ≤ 8 ∧ b ≤ 8
theorem few9_yes (t s l b : Int) (w : World) (h : GrOk t s l b) :
    Calls Tryz.prog 4 #[.agg #[.int .i64 t, .int .i64 s, .int .i64 l, .int .i64 b]] w fun e w' => e = .returned (.bool true) ∧ Ext w w' := by
  obtain ⟨hc, h1, h2, h3, h4⟩ := h
  go_enter Tryz.func4, Tryz.ntmps4
  go_wp2_with fail
  refine (rright_yes t s l b _ hc).mono ?_
  rintro e w1 ⟨rfl, x1⟩
  obtain ⟨c0, c1, c2, c3⟩ := (C4.new w t s l b 23).ext x1 (by simp)
  go_wp2_with fail
  go_ret
  exact ⟨rfl, ((Ext.refl w).alloc _).trans x1⟩
theorem few9_no (t s l b : Int) (w : World) (h : ¬ GrOk t s l b) :
    Calls Tryz.prog 4 #[.agg #[.int .i64 t, .int .i64 s, .int .i64 l, .int .i64 b]] w fun e w' => e = .returned (.bool false) ∧ Ext w w' := by
  by_cases hc : CfgOk t s l b
  · have HY := Lib.hid (fun W => rright_yes t s l b W hc)
    by_cases h1 : t ≤ 6
    · by_cases h2 : s ≤ 30
      · by_cases h3 : l ≤ 8
        · have h4 : decide (b ≤ 8) = false := by simp; exact Int.not_le.1 (fun h4 => h ⟨hc, h1, h2, h3, h4⟩)
          clear h hc
          go_enter Tryz.func4, Tryz.ntmps4
          go_wp2_with fail
          refine (HY.out _).mono ?_
          rintro e w1 ⟨rfl, x1⟩
          obtain ⟨c0, c1, c2, c3⟩ := (C4.new w t s l b 23).ext x1 (by simp)
          go_wp2_with fail
          go_ret
          exact ⟨rfl, ((Ext.refl w).alloc _).trans x1⟩
        · clear h hc
          go_enter Tryz.func4, Tryz.ntmps4
          go_wp2_with fail
          refine (HY.out _).mono ?_
          rintro e w1 ⟨rfl, x1⟩
          obtain ⟨c0, c1, c2, c3⟩ := (C4.new w t s l b 23).ext x1 (by simp)
          go_wp2_with fail
          go_ret
          exact ⟨rfl, ((Ext.refl w).alloc _).trans x1⟩
      · clear h hc
        go_enter Tryz.func4, Tryz.ntmps4
        go_wp2_with fail
        refine (HY.out _).mono ?_
        rintro e w1 ⟨rfl, x1⟩
        obtain ⟨c0, c1, c2, c3⟩ := (C4.new w t s l b 23).ext x1 (by simp)
        go_wp2_with fail
        go_ret
        exact ⟨rfl, ((Ext.refl w).alloc _).trans x1⟩
    · clear h hc
      go_enter Tryz.func4, Tryz.ntmps4
      go_wp2_with fail
      refine (HY.out _).mono ?_
      rintro e w1 ⟨rfl, x1⟩
      obtain ⟨c0, c1, c2, c3⟩ := (C4.new w t s l b 23).ext x1 (by simp)
      go_wp2_with fail
      go_ret
      exact ⟨rfl, ((Ext.refl w).alloc _).trans x1⟩
  · clear h
    go_enter Tryz.func4, Tryz.ntmps4
    go_wp2_with fail
    refine (rright_no t s l b _ hc).mono ?_
    rintro e w1 ⟨rfl, x1⟩
    go_wp2_with fail
    go_ret
    exact ⟨rfl, ((Ext.refl w).alloc _).trans x1⟩
end Go.Proofs.YtolengkegjipaaaGreat


/- Grounds: what is laid of a config and the words that are put. Conditions: those that each theorem names. -/
namespace Go.Proofs.YtolengkegjipaaaGreat
open Go.ChangeShapes Go.WideShapes Go.ChangeAt Go.RowKit
set_option linter.unusedVariables false
/-- A memory, the document's, and blocks of the walk's own, all apart. -/
structure Gr (Own : Nat → Prop) (w0 w : World) (gm : Nat) (dv pv : Value) (g : Nat) (R : RefB) (rv : Value) (s : MSt) : Prop where
  mem : IsMem (fun b => rfoot g R rv b ∨ Own b) w w0 w gm dv pv s
  ref : IsRMem w0.heap.size w g R rv s
  off : ∀ b, Own b → ¬ rfoot g R rv b ∧ w0.heap.size ≤ b
section
variable {Own Own' : Nat → Prop} {w0 w w' w'' : World} {gm g : Nat} {dv pv rv : Value} {R : RefB} {s s' : MSt}
theorem Gr.lt (h : Gr Own w0 w gm dv pv g R rv s) {b : Nat} (hb : Own b) : b < w.heap.size := h.mem.lt.2 b (Or.inr hb)
theorem Gr.sound (h : Gr Own w0 w gm dv pv g R rv s) : Sound s.dev := h.mem.dev.sound
theorem Gr.ext (h : Gr Own w0 w gm dv pv g R rv s) (x : Ext w w') : Gr Own w0 w' gm dv pv g R rv s :=
  ⟨h.mem.fr (S := fun _ => False) (h.mem.lt.1.trans x) (Fr.of_ext x) (fun _ hs => hs.elim) (fun _ _ => rfl), h.ref.ext x, h.off⟩
/-- Of its own blocks some have turned. -/
theorem Gr.turn (h : Gr Own w0 w gm dv pv g R rv s) {S : Nat → Prop} (f : Fr S w w') (hS : ∀ b, S b → Own b) : Gr Own w0 w' gm dv pv g R rv s :=
  ⟨h.mem.turn f (fun b hb => Or.inr (hS b hb)) (fun b hb => (h.off b (hS b hb)).2), h.ref.fr f (fun b hb hs => (h.off b (hS b hs)).1 hb), h.off⟩
/-- Other blocks are its own: some that were, or new ones. -/
theorem Gr.owns (h : Gr Own w0 w gm dv pv g R rv s) (x : Ext w w') (hO : ∀ b, Own' b → b < w'.heap.size ∧ (Own b ∨ w.heap.size ≤ b)) : Gr Own' w0 w' gm dv pv g R rv s := by
  refine ⟨h.mem.hold x (fun b hb => ?_), h.ref.ext x, fun b hb => ?_⟩
  · rcases hb with hb | hb
    · exact ⟨Nat.lt_of_lt_of_le (h.ref.foot_lt hb).2 x.size, Or.inl (Or.inl hb)⟩
    · exact ⟨(hO b hb).1, (hO b hb).2.imp Or.inr id⟩
  · rcases (hO b hb).2 with ho | ho
    · exact h.off b ho
    · exact ⟨fun hf => by have := (h.ref.foot_lt hf).2; omega, Nat.le_trans h.mem.lt.1.size ho⟩
/-- Something was done to the memory, then to the document's. -/
theorem Gr.refMid (h : Gr Own w0 w gm dv pv g R rv s) (m : IsMem (fun b => rfoot g R rv b ∨ Own b) w w0 w' gm dv pv s') : IsRMem w0.heap.size w' g R rv s :=
  h.ref.heldQ (fun b hb => m.keptQ b (Or.inl hb))
theorem Gr.both (h : Gr Own w0 w gm dv pv g R rv s) (m : IsMem (fun b => rfoot g R rv b ∨ Own b) w w0 w' gm dv pv s') (r : IsRMem w0.heap.size w'' g R rv s') (f : Fr (rfoot g R rv) w' w'') : Gr Own w0 w'' gm dv pv g R rv s' :=
  ⟨m.fr (S := rfoot g R rv) (f.ext m.lt.1 (fun b hb => ((h.refMid m).foot_lt hb).1)) f (fun _ hs => Or.inl hs) (fun _ _ => rfl), r, h.off⟩
theorem Gr.keeps (h : Gr Own w0 w gm dv pv g R rv s) (m : IsMem (fun b => rfoot g R rv b ∨ Own b) w w0 w' gm dv pv s') (f : Fr (rfoot g R rv) w' w'') {b : Nat} (hb : Own b) : w''.heap[b]? = w.heap[b]? :=
  (f.block b (m.lt.2 b (Or.inr hb)) (h.off b hb).1).trans (m.keptQ b (Or.inr hb))
end
theorem IsDev.mono {B B' : Nat} {w : World} {D : DevB} {s : DSt} (h : IsDev B w D s) (hB : B' ≤ B) : IsDev B' w D s :=
  ⟨h.n0, h.n1, h.T0, h.T1, h.lits, h.lfl, Nat.le_trans hB h.bd, Nat.le_trans hB h.bf, h.dev, h.kept.mono hB, h.seen.mono hB, h.ks, h.flb, fun t ht => (h.fl t ht).mono hB, h.writes.mono hB, h.apart, h.wapart, h.lk, h.ls⟩
/-- Words that are put. -/
abbrev Put := Int × Int
def PutsAt (w : World) (A : Option Addr) (ys : List Put) : Prop := 0 < ys.length → ∃ ad, A = some ad ∧ ad.block < w.heap.size ∧ ∀ i, i < ys.length → (w.cell? (ad.add (i * 2)) = some (.int .i64 (ys.getD i (0, 0)).1) ∧ w.cell? ⟨(ad.add (i * 2)).block, (ad.add (i * 2)).off + 1, none⟩ = some (.int .u64 (ys.getD i (0, 0)).2)) ∧ (-9223372036854775808 ≤ (ys.getD i (0, 0)).1 ∧ (ys.getD i (0, 0)).1 < 9223372036854775808) ∧ (0 ≤ (ys.getD i (0, 0)).2 ∧ (ys.getD i (0, 0)).2 < 18446744073709551616)
theorem PutsAt.ext {w w' : World} {A : Option Addr} {ys : List Put} (h : PutsAt w A ys) (x : Ext w w') : PutsAt w' A ys := fun h0 => by
  obtain ⟨ad, rfl, hb, hc⟩ := h h0
  refine ⟨ad, rfl, Nat.lt_of_lt_of_le hb x.size, fun i hi => ?_⟩
  obtain ⟨⟨c0, c1⟩, hx⟩ := hc i hi
  have e' : w'.heap[(ad.add (i * 2)).block]? = w.heap[(ad.add (i * 2)).block]? := by rw [add_block]; exact x.block ad.block hb
  have kk : ∀ q : Addr, q.block = (ad.add (i * 2)).block → w'.cell? q = w.cell? q := fun q hq => World.cell?_of_block (by rw [hq]; exact e')
  exact ⟨⟨(by refine Eq.trans (kk _ ?_) c0; rfl), (by refine Eq.trans (kk _ ?_) c1; rfl)⟩, hx⟩
def putAll (s : MSt) (ys : List Put) : MSt := ys.foldl (fun s p => s.store 0 p.1 p.2) s
theorem putAll_take (s : MSt) (ys : List Put) (i : Nat) (hi : i < ys.length) : putAll s (ys.take (i + 1)) = (putAll s (ys.take i)).store 0 (ys.getD i (0, 0)).1 (ys.getD i (0, 0)).2 := by
  unfold putAll
  rw [List.take_succ_eq_append_getElem hi, List.foldl_append, List.getD_eq_getElem?_getD, List.getElem?_eq_getElem hi]
  rfl
theorem store_calm {s : MSt} {n : Int} (h : 0 ≤ s.clock ∧ s.clock ≤ n ∧ 0 ≤ s.bad ∧ s.bad ≤ n) (t a x : Int) : 0 ≤ (s.store t a x).clock ∧ (s.store t a x).clock ≤ n + 1 ∧ 0 ≤ (s.store t a x).bad ∧ (s.store t a x).bad ≤ n + 1 := by
  obtain ⟨h0, h1, h2, h3⟩ := h
  have e := put_clock s a x
  unfold MSt.store
  split <;> unfold MSt.note <;> simp only [e] <;> refine ⟨?_, ?_, ?_, ?_⟩ <;> (try split) <;> omega
theorem putAll_calm {s : MSt} (h : s.clock = 0) (h' : s.bad = 0) (ys : List Put) : ∀ i : Nat, i ≤ ys.length → 0 ≤ (putAll s (ys.take i)).clock ∧ (putAll s (ys.take i)).clock ≤ (i : Int) ∧ 0 ≤ (putAll s (ys.take i)).bad ∧ (putAll s (ys.take i)).bad ≤ (i : Int)
  | 0, _ => by rw [show putAll s (ys.take 0) = s from rfl, h, h']; exact ⟨by decide, by decide, by decide, by decide⟩
  | i + 1, hi => by
    rw [putAll_take s ys i (by omega)]
    have := store_calm (putAll_calm h h' ys i (by omega)) 0 (ys.getD i (0, 0)).1 (ys.getD i (0, 0)).2
    rw [show ((i + 1 : Nat) : Int) = (i : Int) + 1 by omega]
    exact this
/-- How many words a ground's config has. -/
def wN (t s l b : Nat) : Nat := 5 + (b + 7) / 8 + t + (l + 7) / 8 * t + s
theorem wN_le {t s l b : Nat} (ht : t ≤ 6) (hs : s ≤ 30) (hl : l ≤ 8) (hb : b ≤ 8) : wN t s l b ≤ 60 := by
  unfold wN
  have : (l + 7) / 8 * t ≤ 1 * 6 := Nat.mul_le_mul (by omega) ht
  omega
def startSt (t s l b : Nat) : MSt := MSt.new (DSt.new (wN t s l b) t (List.replicate (wN t s l b * 8) 0)) (2 + t + s)
def groundSt (t s l b : Nat) (ys : List Put) : MSt := putAll (startSt t s l b) ys
def GrNew (w : World) (t s l b : Nat) (ys : List Put) (e : Ending) (w' : World) : Prop := ∃ gl gm dv pv g R rv, e = .returned (.tuple #[.pointer (some ⟨gl, 0, none⟩), .pointer (some ⟨gm, 0, none⟩), .pointer (some ⟨g, 0, none⟩), .bool true]) ∧ Blk w' gl 97 (cellsF (layF t s l b)) ∧ Gr (fun q => q = gl) w w' gm dv pv g R rv (groundSt t s l b ys)
theorem results_tmp4 {fn : Func} {t u v x : Tmp} (h : fn.results = #[.tmp t, .tmp u, .tmp v, .tmp x]) (tmps : Array Value) (P : Program) (w : World) :
    (results fn tmps).run P w = .ok (.tuple #[tmps.getD t undef, tmps.getD u undef, tmps.getD v undef, tmps.getD x undef]) w := by
  simp [results, h]
set_option maxRecDepth 100000 in
set_option maxHeartbeats 4000000 in
theorem lay_ok (w : World) (A : Option Addr) (n c : Nat) (t s l b : Nat) (ys : List Put) (hg : GrOk t s l b) (hy : ys.length = n) (hn : n ≤ 100) (hY : PutsAt w A ys) :
    Calls Tryz.prog 8 #[.agg #[.int .i64 t, .int .i64 s, .int .i64 l, .int .i64 b, .slice A n c]] w (GrNew w t s l b ys) := by
  have x0 := (Ext.refl w).alloc (.cells #[.int .i64 t, .int .i64 s, .int .i64 l, .int .i64 b, .slice A n c] 38)
  have B0 := Blk.new w 38 [.int .i64 t, .int .i64 s, .int .i64 l, .int .i64 b, .slice A n c]
  obtain ⟨hc, h1, h2, h3, h4⟩ := id hg
  obtain ⟨⟨q0, q1⟩, ⟨q2, q3⟩, ⟨q4, q5⟩, q6, q7⟩ := id hc
  have d1 : decide (100 < n) = false := by simp; omega
  have HY := Lib.hid (fun W => few9_yes t s l b W hg)
  have HO := Lib.hid (fun W => of_yes t s l b W hc)
  have HLa := Lib.hid (fun W => lasting_any t s l b W (by omega) (by omega) (by omega) (by omega))
  have HPa := Lib.hid (fun W => passing_any t s l b W (by omega) (by omega))
  have hwN : wN t s l b ≤ 60 := wN_le (by omega) (by omega) (by omega) (by omega)
  have hw0 : 0 < wN t s l b := by unfold wN; omega
  have hLn : (NM.last t s l b).length = wN t s l b * 8 := by rw [NM.last_len, Nat.mul_comm]; rfl
  have hPn : (NM.pass t s).length = 2 + t + s := NM.pass_len t s
  have HYs := Lib.hid hY
  have HPC := Lib.hid (putAll_calm (s := startSt t s l b) rfl rfl ys)
  clear hY hg hc
  generalize hM : wN t s l b = M at *
  obtain ⟨N, hN⟩ : ∃ N, M * 8 = N := ⟨_, rfl⟩
  rw [hN] at hLn
  have hPb : 2 + t + s ≤ 38 := by omega
  have SM : Hid (startSt t s l b = MSt.new (DSt.new M t (List.replicate (M * 8) 0)) (2 + t + s)) := Lib.hid (by unfold startSt; rw [hM])
  rw [hN] at SM
  generalize hP : 2 + t + s = P at *
  have HMM := Lib.hid hM
  clear hM hP
  go_enter Tryz.func8, Tryz.ntmps8
  go_wp2_with fail
  refine (HY.out _).mono ?_
  rintro e w1 ⟨rfl, x1⟩
  have B1 := Lib.hid (B0.ext (((Ext.refl _).alloc (.cells #[.int .i64 t, .int .i64 s, .int .i64 l, .int .i64 b] 23)).trans x1))
  have C1 := Lib.hid ((Blk.new (w.alloc (.cells #[.int .i64 t, .int .i64 s, .int .i64 l, .int .i64 b, .slice A n c] 38)) 23 [.int .i64 t, .int .i64 s, .int .i64 l, .int .i64 b]).ext x1)
  rw [show (w.alloc (.cells #[.int .i64 t, .int .i64 s, .int .i64 l, .int .i64 b, .slice A n c] 38)).heap.size = w.heap.size + 1 by simp] at C1
  have X1 := Lib.hid ((x0.alloc (.cells #[.int .i64 t, .int .i64 s, .int .i64 l, .int .i64 b] 23)).trans x1)
  clear x0 x1 B0 HY
  have b4 : w1.cell? ⟨w.heap.size, 4, none⟩ = some (.slice A n c) := B1.out.cell 4
  have c0 : w1.cell? ⟨w.heap.size + 1, 0, none⟩ = some (.int .i64 t) := C1.out.cell 0
  have c1 : w1.cell? ⟨w.heap.size + 1, 1, none⟩ = some (.int .i64 s) := C1.out.cell 1
  have c2 : w1.cell? ⟨w.heap.size + 1, 2, none⟩ = some (.int .i64 l) := C1.out.cell 2
  have c3 : w1.cell? ⟨w.heap.size + 1, 3, none⟩ = some (.int .i64 b) := C1.out.cell 3
  go_wp2_with fail
  refine (HO.out _).mono ?_
  rintro e w2 ⟨gl, rfl, bl, hgl, x2⟩
  have BL2 := Lib.hid bl
  have GL : Hid (w.heap.size ≤ gl) := Lib.hid (Nat.le_trans X1.out.size hgl)
  have B2 := Lib.hid (B1.out.ext x2)
  have C2 := Lib.hid (C1.out.ext x2)
  have X2 := Lib.hid (X1.out.trans x2)
  clear x2 bl hgl HO B1 C1 X1 b4 c0 c1 c2 c3
  have c0 : w2.cell? ⟨w.heap.size + 1, 0, none⟩ = some (.int .i64 t) := C2.out.cell 0
  have c1 : w2.cell? ⟨w.heap.size + 1, 1, none⟩ = some (.int .i64 s) := C2.out.cell 1
  have c2 : w2.cell? ⟨w.heap.size + 1, 2, none⟩ = some (.int .i64 l) := C2.out.cell 2
  have c3 : w2.cell? ⟨w.heap.size + 1, 3, none⟩ = some (.int .i64 b) := C2.out.cell 3
  go_wp2_with fail
  refine (HLa.out _).mono ?_
  rintro e w3 ⟨v, rfl, hv, x3⟩
  obtain ⟨Av, cv, rfl, _⟩ := hv.form
  rw [hLn]
  clear hv
  have R4 := Lib.hid (Row.made w3 53 N N .u64 (Nat.le_refl _) (by omega))
  have BL3 := Lib.hid (BL2.out.ext x3)
  have B3 := Lib.hid (B2.out.ext x3)
  have C3 := Lib.hid (C2.out.ext x3)
  have X3 := Lib.hid (X2.out.trans x3)
  have hmk := fun W => make_words N N (Nat.le_refl _) (by omega) W
  clear x3 HLa B2 C2 X2 BL2 c0 c1 c2 c3
  generalize madeCells #[.int .u64 0] (N * 1) = MW at *
  have BL4 := Lib.hid (BL3.out.ext ((Ext.refl w3).alloc (.cells MW 53)))
  have B4 := Lib.hid (B3.out.ext ((Ext.refl w3).alloc (.cells MW 53)))
  have C4 := Lib.hid (C3.out.ext ((Ext.refl w3).alloc (.cells MW 53)))
  have X4 := Lib.hid (X3.out.alloc (.cells MW 53))
  have I4 : Hid (Ints (w3.alloc (.cells MW 53)) .u64 (some ⟨w3.heap.size, 0, none⟩) (List.replicate N 0)) := by
    obtain ⟨A', c', e', hI, _⟩ := R4.out.form
    injection e' with e1
    rw [← e1] at hI
    exact Lib.hid hI
  have hw3 : w.heap.size + 1 < w3.heap.size := C3.out.lt
  have c0 : w3.cell? ⟨w.heap.size + 1, 0, none⟩ = some (.int .i64 t) := C3.out.cell 0
  have c1 : w3.cell? ⟨w.heap.size + 1, 1, none⟩ = some (.int .i64 s) := C3.out.cell 1
  have c2 : w3.cell? ⟨w.heap.size + 1, 2, none⟩ = some (.int .i64 l) := C3.out.cell 2
  have c3 : w3.cell? ⟨w.heap.size + 1, 3, none⟩ = some (.int .i64 b) := C3.out.cell 3
  have k1 : ¬ w.heap.size + 1 = w3.heap.size := by omega
  clear R4 BL3 B3 C3 X3
  go_wp2_with fail
  refine (HPa.out _).mono ?_
  rintro e w5 ⟨v, rfl, hv, x5⟩
  obtain ⟨Av, cv, rfl, _⟩ := hv.form
  rw [hPn]
  clear hv c0 c1 c2 c3 HPa hmk k1
  have BL5 := Lib.hid (BL4.out.ext x5)
  have B5 := Lib.hid (B4.out.ext x5)
  have C5 := Lib.hid (C4.out.ext x5)
  have X5 := Lib.hid (X4.out.trans x5)
  have I5 := Lib.hid (I4.out.ext x5)
  clear x5 BL4 B4 C4 X4 I4 hw3
  generalize w3.heap.size = gw at *
  have HM8 := Lib.hid hN
  have ho := open_ok w5 (some ⟨gw, 0, none⟩) M N t (List.replicate N 0) (by rw [List.length_replicate, hN]) hw0 (by omega) (by omega) (by omega) (lim_noughts N) I5.out (by omega) (by omega)
  rw [hN] at ho
  have HOp := Lib.hid ho
  have HRf := Lib.hid (fun (W : World) (x : Ext w5 W) => refNew_ok W (some ⟨gw, 0, none⟩) N M N t P (List.replicate N 0) hN (by omega) hw0 (by rw [List.length_replicate]) (lim_noughts N) (I5.out.ext x) (by omega) (by omega) (by omega))
  clear ho
  have c0 : w5.cell? ⟨w.heap.size + 1, 0, none⟩ = some (.int .i64 t) := C5.out.cell 0
  have hgl5 : gl < w5.heap.size := BL5.out.lt
  have hB5 : w.heap.size < w5.heap.size := B5.out.lt
  have hBL : ¬ w.heap.size = gl := fun e => B5.out.ne BL5.out (by decide) e
  go_wp2_with fail
  refine HOp.out.mono ?_
  rintro e w6 ⟨D, rfl, h, x⟩
  have a1 : AtQ (fun q => q = gl ∨ q = w.heap.size) w6 w w6 D.ptr _ := ⟨D, rfl, h.mono X5.out.size, X5.out.trans x, fun q e => by
    have hq : q < w5.heap.size := by rcases e with e | e <;> rw [e] <;> assumption
    exact ⟨Nat.lt_of_lt_of_le hq x.size, fun hf => by have := (h.foot_ge hf).1; omega, rfl⟩⟩
  generalize D.ptr = dv at a1
  have X6 := Lib.hid x
  clear h x HOp c0
  have HNw := Lib.hid (memNew_ok a1 P (by omega))
  clear a1
  go_wp2_with fail
  refine HNw.out.mono ?_
  rintro e w7 ⟨gm, pv, rfl, m7, x7⟩
  have M7 := Lib.hid m7
  have X7 := Lib.hid (X6.out.trans x7)
  clear m7 x7 HNw X6
  have c0 : w7.cell? ⟨w.heap.size + 1, 0, none⟩ = some (.int .i64 t) := (C5.out.ext X7.out).cell 0
  go_wp2_with fail
  refine (HRf.out _ X7.out).mono ?_
  rintro e w8 ⟨g, R, rv, rfl, r8, x8⟩
  clear c0 HRf
  have B8 := Lib.hid (B5.out.ext (X7.out.trans x8))
  have BL8 := Lib.hid (BL5.out.ext (X7.out.trans x8))
  have hG0 : Gr (fun q => q = gl ∨ q = w.heap.size) w w8 gm dv pv g R rv (MSt.new (DSt.new M t (List.replicate N 0)) P) := ⟨M7.out.hold x8 (fun b hb => by
    rcases hb with hb | hb
    · exact ⟨(r8.foot_lt hb).2, Or.inr (r8.foot_lt hb).1⟩
    · exact ⟨by rcases hb with e | e <;> rw [e]; exact BL8.out.lt; exact B8.out.lt, Or.inl hb⟩), r8.mono (Nat.le_trans X5.out.size X7.out.size), fun b hb => by
      have hq : b < w5.heap.size := by rcases hb with e | e <;> rw [e] <;> assumption
      refine ⟨fun hf => by have := (r8.foot_lt hf).1; have := X7.out.size; omega, ?_⟩
      rcases hb with e | e
      · rw [e]; exact GL.out
      · rw [e]; exact Nat.le_refl _⟩
  rw [← SM.out] at hG0
  have G0 := Lib.hid hG0
  clear hG0 r8 x8 M7 X7 B5 BL5 C5 X5 I5 SM
  go_wp2_with fail
  go_loopw [16] (fun i wr => ∃ k : Nat, k ≤ n ∧ i = .int .i64 k ∧ Gr (fun q => q = gl ∨ q = w.heap.size) w wr gm dv pv g R rv (putAll (startSt t s l b) (ys.take k)) ∧ Blk wr w.heap.size 38 [.int .i64 t, .int .i64 s, .int .i64 l, .int .i64 b, .slice A n c] ∧ Blk wr gl 97 (cellsF (layF t s l b))) (fun i _ => n - (intOf i).toNat)
  case atStart => exact ⟨0, Nat.zero_le _, rfl, G0.out, B8.out, BL8.out⟩
  case round =>
    obtain ⟨k, hk, rfl, gk, bk, blk⟩ := hrel
    have GK := Lib.hid gk
    have BK := Lib.hid bk
    have BLK := Lib.hid blk
    have hb4 : wr.cell? ⟨w.heap.size, 4, none⟩ = some (.slice A n c) := bk.cell 4
    clear gk bk blk G0 B8 BL8
    by_cases hlt : k < n
    · have v1 : decide (k < n) = true := by simp; omega
      have HT := Lib.hid (putAll_take (startSt t s l b) ys k (by omega))
      have HC := HPC.out k (by omega)
      have HCalm : Hid (Calm (putAll (startSt t s l b) (ys.take k))) := Lib.hid ⟨HC.1, by omega, HC.2.2.1, by omega⟩
      obtain ⟨ad, hA, _, hac⟩ := HYs.out.ext GK.out.mem.lt.1 (by omega)
      obtain ⟨⟨p0, p1⟩, hp, hx⟩ := hac k (by omega)
      have HQ : Hid (∀ W, Ext w W → W.cell? (ad.add (k * 2)) = some (.int .i64 (ys.getD k (0, 0)).1) ∧ W.cell? ⟨(ad.add (k * 2)).block, (ad.add (k * 2)).off + 1, none⟩ = some (.int .u64 (ys.getD k (0, 0)).2)) := Lib.hid (fun W x => by
        obtain ⟨ad', hA1', _, hac'⟩ := HYs.out.ext x (by omega)
        have : ad = ad' := by rw [hA] at hA1'; injection hA1'
        subst this
        exact (hac' k (by omega)).1)
      have HXx := Lib.hid hx
      have HPp := Lib.hid hp
      generalize ys.getD k (0, 0) = z at *
      obtain ⟨za, zw⟩ := z
      simp only at p0 p1 hp hx HT HQ HXx HPp
      generalize putAll (startSt t s l b) (ys.take k) = s0 at *
      clear hac HC
      subst hA
      have M0 := Lib.hid (GK.out.mem.ext ((Ext.refl wr).drew))
      have HSt := Lib.hid (fun W (m : IsMem (fun b => rfoot g R rv b ∨ (b = gl ∨ b = w.heap.size)) wr w W gm dv pv s0) => memStore_ok m 0 za zw HPp.out.1 HPp.out.2 HXx.out HCalm.out)
      have HF : Hid (∀ W s', IsMem (fun b => rfoot g R rv b ∨ (b = gl ∨ b = w.heap.size)) wr w W gm dv pv s' → W.cell? ⟨w.heap.size, 4, none⟩ = some (.slice (some ad) n c) ∧ W.cell? (ad.add (k * 2)) = some (.int .i64 za) ∧ W.cell? ⟨(ad.add (k * 2)).block, (ad.add (k * 2)).off + 1, none⟩ = some (.int .u64 zw)) := Lib.hid (fun W s' m => ⟨(show Blk W w.heap.size _ _ from (m.keptQ _ (Or.inr (Or.inr rfl))).trans BK.out).cell 4, HQ.out W m.lt.1⟩)
      go_wp2_with fail
      go_region_held3 (fun W => W.cell? ⟨w.heap.size, 4, none⟩ = some (.slice (some ad) n c) ∧ W.cell? (ad.add (k * 2)) = some (.int .i64 za) ∧ W.cell? ⟨(ad.add (k * 2)).block, (ad.add (k * 2)).off + 1, none⟩ = some (.int .u64 zw)) (first | exact HF.out _ _ M0.out | go_keep) (first
        | (go_at_call 29; refine (HSt.out _ M0.out).mono ?_; rintro e w9 ⟨⟨u, rfl⟩, m9⟩; replace M0 := Lib.hid m9; clear m9))
      all_goals
        have R9 := GK.out.refMid M0.out
        have RS := Lib.hid (refStore7 (R9.ext ((Ext.refl w9).drew)) GK.out.sound HCalm.out 0 za 0 zw HPp.out.1 HPp.out.2)
        have RS0 := Lib.hid (refStore7 R9 GK.out.sound HCalm.out 0 za 0 zw HPp.out.1 HPp.out.2)
        have M9 := Lib.hid (M0.out.ext ((Ext.refl w9).drew))
        obtain ⟨f4, f0, f1⟩ := HF.out _ _ M0.out
        clear R9 p0 p1 hb4
        go_wp2_with fail
        go_region_held3 (fun W => W.cell? ⟨w.heap.size, 4, none⟩ = some (.slice (some ad) n c) ∧ W.cell? (ad.add (k * 2)) = some (.int .i64 za) ∧ W.cell? ⟨(ad.add (k * 2)).block, (ad.add (k * 2)).off + 1, none⟩ = some (.int .u64 zw)) (first | exact hS10 | exact HF.out _ _ M9.out | go_keep) (first
          | (go_at_call 30; refine (RS.out).mono ?_; rintro e w10 ⟨⟨u, rfl⟩, r10, f10⟩; have GN := Lib.hid (GK.out.both M9.out r10 f10); have BN := Lib.hid (show Blk w10 w.heap.size 38 [.int .i64 t, .int .i64 s, .int .i64 l, .int .i64 b, .slice (some ad) n c] from (GK.out.keeps M9.out f10 (Or.inr rfl)).trans BK.out); have BLN := Lib.hid (show Blk w10 gl 97 (cellsF (layF t s l b)) from (GK.out.keeps M9.out f10 (Or.inl rfl)).trans BLK.out); have hS10 := And.intro (BN.out.cell 4) (HQ.out w10 GN.out.mem.lt.1); clear r10 f10))
        all_goals
          rw [← HT.out] at GN
          clear f4 f0 f1 hS10 RS RS0 M9 M0 HF HQ HSt HT
          go_wp2_with fail
          go_roundw
          case rel => exact ⟨k + 1, by omega, by go_num, GN.out, BN.out, BLN.out⟩
          case measure => simp [intOf]; omega
    · have v1 : decide (k < n) = false := by simp; omega
      obtain rfl : n = k := by omega
      have HYl : Hid (ys.take n = ys) := Lib.hid (List.take_of_length_le (by omega))
      rw [HYl.out] at GK
      have hdn : (putAll (startSt t s l b) ys).dev.n * 8 = N := by
        rw [← hN]
        have : ∀ (zs : List Put) (s0 : MSt), (putAll s0 zs).dev.n = s0.dev.n := fun zs => by
          induction zs with
          | nil => intro s0; rfl
          | cons z zs ih =>
            intro s0
            rw [show putAll s0 (z :: zs) = putAll (s0.store 0 z.1 z.2) zs from rfl, ih]
            unfold MSt.store MSt.put DSt.store
            (repeat' split) <;> rfl
        rw [this, ← HMM.out]
        rfl
      have HDv := Lib.hid (memDevice_ok GK.out.mem)
      have HSe := Lib.hid (GK.out.mem.dev.seenA N hdn)
      clear hdn
      go_wp2_with fail
      refine HDv.out.mono ?_
      rintro e w' ⟨rfl, rfl⟩
      go_wp2_with fail
      refine HSe.out.mono ?_
      rintro e w10 ⟨⟨gg, cc, rfl, _, _, _, x10, _⟩, _⟩
      have X10 := Lib.hid x10
      clear x10 HSe HDv
      go_wp2_with fail
      refine bodyPost_ret (results_tmp4 rfl _ _ _) rfl ?_
      exact ⟨gl, gm, dv, pv, g, R, rv, rfl, BLK.out.ext X10.out, (GK.out.owns X10.out (fun b hb => by rw [hb]; exact ⟨(BLK.out.ext X10.out).lt, Or.inl (Or.inl rfl)⟩))⟩
end Go.Proofs.YtolengkegjipaaaGreat

