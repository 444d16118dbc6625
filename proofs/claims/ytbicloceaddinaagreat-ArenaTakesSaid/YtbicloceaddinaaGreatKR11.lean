/- The document's machine of layer 11, inside others: its state, and what a step leaves. Conditions: those that each theorem names. -/
import Derived.Test.YtbicloceaddinaaGreatKRP
import Derived.Test.YtbicloceaddinaaGreatKRetA
import Derived.Test.YtbicloceaddinaaGreatKRetB
import Derived.Deep.MidRow
namespace Go.Proofs.YtbicloceaddinaaGreat
open Go.ChangeShapes Go.WideShapes Go.ChangeAt Go.RowKit
set_option linter.unusedVariables false
/-- The document's machine of layer 11, and its Push, once it has had one. -/
structure R11 where
  kind : Int
  line : Int
  n : Int
  slot : Int
  place : Int
  now : Int
  holds : Int
  count : Int
  push : Option RPu
def pcs (t s l b tn : Int) : Option RPu → List Value
  | none => [.int .i64 0, .int .i64 0, .int .i64 0, .int .i64 0, .int .i64 0, .int .i64 0, .int .u64 0, .int .i64 0]
  | some r => r.cells t s l b tn
def R11.front (x : R11) (t s l b tn : Int) : List Value := [.int .i64 t, .int .i64 s, .int .i64 l, .int .i64 b, .int .i64 tn, .int .i64 x.kind, .int .i64 x.line, .int .i64 x.n, .int .i64 x.slot, .int .i64 x.place, .int .u64 x.now, .int .i64 x.holds, .int .i64 x.count]
def R11.cells (x : R11) (t s l b tn : Int) : List Value := x.front t s l b tn ++ pcs t s l b tn x.push
/-- The next entry, if there is one. -/
def R11.on (F : Nat → Int) (x : R11) : R11 := ⟨x.kind, if x.n + 1 = F 2 then 0 else x.line, x.n + 1, x.slot, x.place, x.now, x.holds, x.count, x.push⟩
def R11.at (x : R11) (k : Int) : R11 := ⟨x.kind, k, x.n, x.slot, x.place, x.now, x.holds, x.count, x.push⟩
def r11a (F : Nat → Int) (tn : Int) (x : R11) (st : MSt) : R11 × MSt :=
  if x.line = 1 then (⟨x.kind, 2, x.n, x.slot, x.place, peekV st (-1), x.holds, x.count, x.push⟩, st.load tn (-1))
  else if x.line = 2 then (if overB x.now (peekV st (logN F tn x.n)) = true then ⟨x.kind, 3, x.n, toN (peekV st (logN F tn x.n)), x.place, x.now, x.holds, x.count, x.push⟩ else x.on F, st.load tn (logN F tn x.n))
  else if x.line = 3 then (⟨x.kind, 4, x.n, x.slot, x.place, x.now, x.slot, x.count, some ⟨1, 0, x.slot⟩⟩, st.store tn (logN F tn x.n) 0)
  else match x.push with
    | none => (x, st)
    | some p => (if (rpushS F tn p st).1.line = 0 then (⟨x.kind, 2, x.n, x.slot, x.place, x.now, -1, x.count + 1, some (rpushS F tn p st).1⟩ : R11).on F else ⟨x.kind, x.line, x.n, x.slot, x.place, x.now, x.holds, x.count, some (rpushS F tn p st).1⟩, (rpushS F tn p st).2)
def r11b (F : Nat → Int) (tn : Int) (x : R11) (st : MSt) : R11 × MSt :=
  if x.line = 3 then (x.at 4, st.flush tn (logN F tn x.n))
  else if x.line = 4 then (⟨x.kind, 0, x.n, x.slot, x.n, x.now, x.holds, x.count, x.push⟩, st.fence tn)
  else if x.kind = 0 then
    if x.line = 1 then (if peekV st (logN F tn x.n) = 0 then x.at 2 else x.on F, st.load tn (logN F tn x.n))
    else (x.at 3, st.store tn (logN F tn x.n) (entN x.slot (-1)))
  else if x.line = 1 then (⟨x.kind, 2, x.n, x.slot, x.place, peekV st (-1), x.holds, x.count, x.push⟩, st.load tn (-1))
  else (x.at 3, st.store tn (logN F tn x.n) (entN x.slot (IntKind.i64.wrap x.now)))
/-- What a step of the document's machine leaves. -/
def r11S (F : Nat → Int) (tn : Int) (x : R11) (st : MSt) : R11 × MSt :=
  if x.line = 0 then (x, st)
  else if x.kind = 3 then r11a F tn x st
  else if x.kind = 1 then (x.at 0, st.store tn (logN F tn x.n) 0)
  else r11b F tn x st
structure R11.Wf (L : Int) (x : R11) : Prop where
  kind : x.kind = 0 ∨ x.kind = 1 ∨ x.kind = 2 ∨ x.kind = 3
  line : x.line = 0 ∨ x.line = 1 ∨ x.line = 2 ∨ x.line = 3 ∨ x.line = 4
  k1 : x.kind = 1 → x.line ≠ 0 → x.line = 1
  n3 : x.kind = 0 ∨ x.kind = 3 → x.line ≠ 0 → 0 ≤ x.n ∧ x.n < L
  slot : I64 x.slot
  now : W64 x.now
  count : x.kind = 3 → x.line ≠ 0 → 0 ≤ x.count ∧ x.count ≤ x.n
  push : x.kind = 3 → x.line = 4 → ∃ p, x.push = some p ∧ p.Wf
theorem over_eq {now v : Int} (hn : W64 now) (hv : W64 v) : overB now v = (decide (0 ≤ toN v) && decide (0 ≤ v / 4294967296 - 1) && decide (2 ≤ now) && decide (v / 4294967296 - 1 ≤ now - 2)) := by
  have h1 := toN_rng hv
  have e : verN v = v / 4294967296 := rfl
  have h2 : 0 ≤ v / 4294967296 := by have := hv.1; omega
  unfold overB
  rw [e]
  rw [Bool.eq_iff_iff]
  simp only [Bool.and_eq_true, bne_iff_ne, ne_eq, decide_eq_true_eq]
  omega
end Go.Proofs.YtbicloceaddinaaGreat


/- The document's machine of layer 11 inside others, each step. Conditions: those that each theorem names. -/
namespace Go.Proofs.YtbicloceaddinaaGreat
open Go.ChangeShapes Go.WideShapes Go.ChangeAt Go.RowKit
set_option linter.unusedVariables false
section
variable {B : Nat} {w w0 : World} {g : Nat} {R : RefB} {rv : Value} {gq : Nat} {T : TypeId} {o : Nat} {A Z : List Value} {st : MSt} {t s l b : Nat} {tn : Int} {kind line n slot place now holds count : Int} {push : Option RPu}
theorem RS.put11 {x : R11} {i : Nat} (h : RS B w0 w g R rv gq T o A Z (x.cells t s l b tn) st) (v : Value) (hi : i < 13) : RS B w0 (w.setCell ⟨gq, o + i, none⟩ v) g R rv gq T o A Z ((x.cells t s l b tn).set i v) st := by
  refine h.put i v ?_
  have e : (x.cells t s l b tn).length = 13 + (pcs t s l b tn x.push).length := by unfold R11.cells; rw [List.length_append]; rfl
  rw [e]
  have : i < 13 + (pcs t s l b tn x.push).length := by omega
  exact Nat.ble_eq_true_of_le this
set_option maxRecDepth 100000 in
set_option maxHeartbeats 8000000 in
theorem on11_ok (h : RS B w0 w g R rv gq T o A Z (R11.cells ⟨kind, line, n, slot, place, now, holds, count, push⟩ t s l b tn) st) (hn : 0 ≤ n ∧ n < 1000) :
    Calls Tryz.prog 139 #[.pointer (some ⟨gq, o, none⟩)] w fun e w' => (∃ u, e = .returned u) ∧ RS B w0 w' g R rv gq T o A Z ((R11.on (layF t s l b) ⟨kind, line, n, slot, place, now, holds, count, push⟩).cells t s l b tn) st := by
  obtain ⟨rx, hrx⟩ : ∃ rx, R11.on (layF t s l b) ⟨kind, line, n, slot, place, now, holds, count, push⟩ = rx := ⟨_, rfl⟩
  rw [hrx]
  have HRx := Lib.hid hrx
  have wn : IntKind.i64.wrap (n + 1) = n + 1 := i64w _ (by omega) (by omega)
  have M := Lib.hid h
  clear h hrx
  go_enter Tryz.func139, Tryz.ntmps139
  have c7 : w.cell? ⟨gq, o + 7, none⟩ = some (.int .i64 n) := M.out.blk.cell 7
  have z7 : w.frozen? ⟨gq, o + 7, none⟩ = false := M.out.blk.frozen 7
  have M1 : Hid (RS B w0 (w.setCell ⟨gq, o + 7, none⟩ (.int .i64 (n + 1))) g R rv gq T o A Z (R11.cells ⟨kind, line, (n + 1), slot, place, now, holds, count, push⟩ t s l b tn) st) := Lib.hid (M.out.put11 (.int .i64 (n + 1)) (by decide))
  go_upto_region 1 with fail
  generalize w.setCell ⟨gq, o + 7, none⟩ (.int .i64 (n + 1)) = w6 at *
  have y7 : w6.cell? ⟨gq, o + 7, none⟩ = some (.int .i64 (n + 1)) := M1.out.blk.cell 7
  have y2 : w6.cell? ⟨gq, o + 2, none⟩ = some (.int .i64 l) := M1.out.blk.cell 2
  clear c7 z7 M
  go_wp2_with fail
  go_quiet (fail)
  have M := Lib.hid (M1.out.ext (ext_drewN (Ext.refl w6) nq))
  generalize w6.drewN nq = w7 at *
  have y6 : w7.cell? ⟨gq, o + 6, none⟩ = some (.int .i64 line) := M.out.blk.cell 6
  have z6 : w7.frozen? ⟨gq, o + 6, none⟩ = false := M.out.blk.frozen 6
  have M2 : Hid (RS B w0 (w7.setCell ⟨gq, o + 6, none⟩ (.int .i64 0)) g R rv gq T o A Z (R11.cells ⟨kind, 0, (n + 1), slot, place, now, holds, count, push⟩ t s l b tn) st) := Lib.hid (M.out.put11 (.int .i64 0) (by decide))
  clear y7 y2 M1
  by_cases he : n + 1 = (l : Int)
  · have d1 : (n + 1 == (l : Int)) = true := by rw [beq_iff_eq]; exact he
    have d2 : decide (n + 1 = (l : Int)) = true := by simpa using he
    have L0 : Hid (⟨kind, 0, n + 1, slot, place, now, holds, count, push⟩ = rx) := Lib.hid (by
      rw [← HRx.out]
      show (⟨kind, 0, n + 1, slot, place, now, holds, count, push⟩ : R11) = ⟨kind, if n + 1 = (l : Int) then 0 else line, n + 1, slot, place, now, holds, count, push⟩
      rw [if_pos he])
    clear he
    go_wp2_with fail
    (first | (refine bodyPost_ret (results_none rfl _ _ _) rfl ?_) | (refine bodyPost_end (results_none rfl _ _ _) rfl ?_))
    exact ⟨⟨_, rfl⟩, by rw [← L0.out]; exact M2.out⟩
  · have d1 : (n + 1 == (l : Int)) = false := by rw [beq_eq_false_iff_ne]; exact he
    have d2 : decide (n + 1 = (l : Int)) = false := by simpa using he
    have L0 : Hid (⟨kind, line, n + 1, slot, place, now, holds, count, push⟩ = rx) := Lib.hid (by
      rw [← HRx.out]
      show (⟨kind, line, n + 1, slot, place, now, holds, count, push⟩ : R11) = ⟨kind, if n + 1 = (l : Int) then 0 else line, n + 1, slot, place, now, holds, count, push⟩
      rw [if_neg he])
    clear he
    go_wp2_with fail
    (first | (refine bodyPost_ret (results_none rfl _ _ _) rfl ?_) | (refine bodyPost_end (results_none rfl _ _ _) rfl ?_))
    exact ⟨⟨_, rfl⟩, by rw [← L0.out]; exact M.out⟩
set_option maxRecDepth 100000 in
set_option maxHeartbeats 8000000 in
theorem last_3 (h : IsRMem B w g R rv st) (sd : Sound st.dev) (hc : Calm st) (c : CfgN t s l b) (ok : Okay (layF t s l b)) (ho : ¬ rfoot g R rv gq) (hb : Sub w gq T o A Z (R11.cells ⟨kind, 3, n, slot, place, now, holds, count, push⟩ t s l b tn)) {i : Nat} (hi : i ≤ 1000) (fine : Fine i st.dev) :
    Calls Tryz.prog 66 #[.pointer (some ⟨gq, o, none⟩), .pointer (some ⟨g, 0, none⟩)] w (RPostS B w g R rv gq T o A Z (R11.cells ⟨kind, 4, n, slot, place, now, holds, count, push⟩ t s l b tn) (st.flush tn (logN (layF t s l b) tn n))) := by
  have M0 := Lib.hid (RS.of h hb ho)
  have har := logN_rng ok tn n
  have HLg := Lib.hid (fun W => rlog_ok (t := t) (s := s) (l := l) (b := b) c tn n W)
  have HL : Hid (∀ W, RS B w W g R rv gq T o A Z (R11.cells ⟨kind, 3, n, slot, place, now, holds, count, push⟩ t s l b tn) st → Calls Tryz.prog 50 #[.pointer (some ⟨g, 0, none⟩), .int .i64 4, .int .i64 tn, .int .i64 (logN (layF t s l b) tn n), .int .u64 0, .int .u64 0] W fun e w' => (∃ u, e = .returned u) ∧ RS B w w' g R rv gq T o A Z (R11.cells ⟨kind, 3, n, slot, place, now, holds, count, push⟩ t s l b tn) (st.flush tn (logN (layF t s l b) tn n))) := Lib.hid (fun W m => (refFlush7 m.ref sd hi fine hc tn _ 0 0 har.1 har.2).mono (by rintro e w' ⟨⟨u, rfl⟩, r1, f1⟩; exact ⟨⟨_, rfl⟩, m.to r1 f1⟩))
  generalize st.flush tn (logN (layF t s l b) tn n) = st1 at *
  generalize logN (layF t s l b) tn n = a at *
  have HP : Hid (∀ W s', RS B w W g R rv gq T o A Z (R11.cells ⟨kind, 3, n, slot, place, now, holds, count, push⟩ t s l b tn) s' → (W.cell? ⟨gq, o, none⟩ = some (.int .i64 t) ∧ W.cell? ⟨gq, o + 1, none⟩ = some (.int .i64 s) ∧ W.cell? ⟨gq, o + 2, none⟩ = some (.int .i64 l) ∧ W.cell? ⟨gq, o + 3, none⟩ = some (.int .i64 b)) ∧ W.cell? ⟨gq, o + 4, none⟩ = some (.int .i64 tn) ∧ W.cell? ⟨gq, o + 7, none⟩ = some (.int .i64 n)) := Lib.hid (fun W s' m => ⟨⟨m.blk.cell 0, m.blk.cell 1, m.blk.cell 2, m.blk.cell 3⟩, m.blk.cell 4, m.blk.cell 7⟩)
  have M := Lib.hid (M0.out.ext ((Ext.refl w).drew))
  have c0 : w.cell? ⟨gq, o, none⟩ = some (.int .i64 t) := hb.cell 0
  have c1 : w.cell? ⟨gq, o + 1, none⟩ = some (.int .i64 s) := hb.cell 1
  have c2 : w.cell? ⟨gq, o + 2, none⟩ = some (.int .i64 l) := hb.cell 2
  have c3 : w.cell? ⟨gq, o + 3, none⟩ = some (.int .i64 b) := hb.cell 3
  have c4 : w.cell? ⟨gq, o + 4, none⟩ = some (.int .i64 tn) := hb.cell 4
  have c5 : w.cell? ⟨gq, o + 5, none⟩ = some (.int .i64 kind) := hb.cell 5
  have c6 : w.cell? ⟨gq, o + 6, none⟩ = some (.int .i64 3) := hb.cell 6
  have c7 : w.cell? ⟨gq, o + 7, none⟩ = some (.int .i64 n) := hb.cell 7
  clear h hb sd hc har M0 hi fine
  go_enter Tryz.func66, Tryz.ntmps66
  go_wp2_with fail
  go_region_held3 (fun W => (W.cell? ⟨gq, o, none⟩ = some (.int .i64 t) ∧ W.cell? ⟨gq, o + 1, none⟩ = some (.int .i64 s) ∧ W.cell? ⟨gq, o + 2, none⟩ = some (.int .i64 l) ∧ W.cell? ⟨gq, o + 3, none⟩ = some (.int .i64 b)) ∧ W.cell? ⟨gq, o + 4, none⟩ = some (.int .i64 tn) ∧ W.cell? ⟨gq, o + 7, none⟩ = some (.int .i64 n)) (first | exact HP.out _ _ M.out | go_keep) (first
    | (go_at_call 65; refine (HLg.out _).mono ?_; rintro e w1 ⟨rfl, x1⟩; replace M := Lib.hid (M.out.ext x1); clear x1)
    | (go_at_call 50; refine (HL.out _ M.out).mono ?_; rintro e w1 ⟨⟨u, rfl⟩, m1⟩; replace M := Lib.hid m1; clear m1))
  all_goals
    have y6 : w1.cell? ⟨gq, o + 6, none⟩ = some (.int .i64 3) := M.out.blk.cell 6
    have z6 : w1.frozen? ⟨gq, o + 6, none⟩ = false := M.out.blk.frozen 6
    have M2 : Hid (RS B w (w1.setCell ⟨gq, o + 6, none⟩ (.int .i64 4)) g R rv gq T o A Z (R11.cells ⟨kind, 4, n, slot, place, now, holds, count, push⟩ t s l b tn) st1) := Lib.hid (M.out.put11 (.int .i64 4) (by decide))
    go_wp2_with fail
    (first | (refine bodyPost_ret (results_none rfl _ _ _) rfl ?_) | (refine bodyPost_end (results_none rfl _ _ _) rfl ?_))
    exact ⟨⟨_, rfl⟩, M2.out⟩
set_option maxRecDepth 100000 in
set_option maxHeartbeats 8000000 in
theorem last_4 (h : IsRMem B w g R rv st) (sd : Sound st.dev) (hc : Calm st) (c : CfgN t s l b) (ok : Okay (layF t s l b)) (ho : ¬ rfoot g R rv gq) (hb : Sub w gq T o A Z (R11.cells ⟨kind, 4, n, slot, place, now, holds, count, push⟩ t s l b tn)) {i : Nat} (hi : i ≤ 1000) (fine : Fine i st.dev) :
    Calls Tryz.prog 66 #[.pointer (some ⟨gq, o, none⟩), .pointer (some ⟨g, 0, none⟩)] w (RPostS B w g R rv gq T o A Z (R11.cells ⟨kind, 0, n, slot, n, now, holds, count, push⟩ t s l b tn) (st.fence tn)) := by
  have M0 := Lib.hid (RS.of h hb ho)
  have HL := Lib.hid (refFence7 h sd hi fine hc tn 0 0 0 (by decide) (by decide))
  generalize st.fence tn = st1 at *
  have c4 : w.cell? ⟨gq, o + 4, none⟩ = some (.int .i64 tn) := hb.cell 4
  have c6 : w.cell? ⟨gq, o + 6, none⟩ = some (.int .i64 4) := hb.cell 6
  clear h hb sd hc hi fine
  go_enter Tryz.func66, Tryz.ntmps66
  go_wp2_with fail
  refine HL.out.mono ?_
  rintro e w1 ⟨⟨u, rfl⟩, r1, f1⟩
  have m1 := M0.out.to r1 f1
  have y6 : w1.cell? ⟨gq, o + 6, none⟩ = some (.int .i64 4) := m1.blk.cell 6
  have z6 : w1.frozen? ⟨gq, o + 6, none⟩ = false := m1.blk.frozen 6
  have m2 : RS B w (w1.setCell ⟨gq, o + 6, none⟩ (.int .i64 0)) g R rv gq T o A Z (R11.cells ⟨kind, 0, n, slot, place, now, holds, count, push⟩ t s l b tn) st1 := m1.put11 (.int .i64 0) (by decide)
  have y7 : (w1.setCell ⟨gq, o + 6, none⟩ (.int .i64 0)).cell? ⟨gq, o + 7, none⟩ = some (.int .i64 n) := m2.blk.cell 7
  have y9 : (w1.setCell ⟨gq, o + 6, none⟩ (.int .i64 0)).cell? ⟨gq, o + 9, none⟩ = some (.int .i64 place) := m2.blk.cell 9
  have z9 : (w1.setCell ⟨gq, o + 6, none⟩ (.int .i64 0)).frozen? ⟨gq, o + 9, none⟩ = false := m2.blk.frozen 9
  have M3 : Hid (RS B w ((w1.setCell ⟨gq, o + 6, none⟩ (.int .i64 0)).setCell ⟨gq, o + 9, none⟩ (.int .i64 n)) g R rv gq T o A Z (R11.cells ⟨kind, 0, n, slot, n, now, holds, count, push⟩ t s l b tn) st1) := Lib.hid (m2.put11 (.int .i64 n) (by decide))
  clear r1 f1 m1 m2 M0 c4 c6
  go_wp2_with fail
  (first | (refine bodyPost_ret (results_none rfl _ _ _) rfl ?_) | (refine bodyPost_end (results_none rfl _ _ _) rfl ?_))
  exact ⟨⟨_, rfl⟩, M3.out⟩
set_option maxRecDepth 100000 in
set_option maxHeartbeats 8000000 in
theorem resv_1 (h : IsRMem B w g R rv st) (sd : Sound st.dev) (hc : Calm st) (c : CfgN t s l b) (ok : Okay (layF t s l b)) (ho : ¬ rfoot g R rv gq) (hb : Sub w gq T o A Z (R11.cells ⟨0, 1, n, slot, place, now, holds, count, push⟩ t s l b tn)) (hn : 0 ≤ n ∧ n < 1000) :
    Calls Tryz.prog 67 #[.pointer (some ⟨gq, o, none⟩), .pointer (some ⟨g, 0, none⟩)] w (RPostS B w g R rv gq T o A Z ((if peekV st (logN (layF t s l b) tn n) = 0 then R11.at ⟨0, 1, n, slot, place, now, holds, count, push⟩ 2 else R11.on (layF t s l b) ⟨0, 1, n, slot, place, now, holds, count, push⟩).cells t s l b tn) (st.load tn (logN (layF t s l b) tn n))) := by
  have M0 := Lib.hid (RS.of h hb ho)
  have har := logN_rng ok tn n
  have HLg := Lib.hid (fun W => rlog_ok (t := t) (s := s) (l := l) (b := b) c tn n W)
  have HL : Hid (∀ W, RS B w W g R rv gq T o A Z (R11.cells ⟨0, 1, n, slot, place, now, holds, count, push⟩ t s l b tn) st → Calls Tryz.prog 50 #[.pointer (some ⟨g, 0, none⟩), .int .i64 1, .int .i64 tn, .int .i64 (logN (layF t s l b) tn n), .int .u64 0, .int .u64 0] W fun e w' => e = .returned (accV (st.load tn (logN (layF t s l b) tn n)).last) ∧ RS B w w' g R rv gq T o A Z (R11.cells ⟨0, 1, n, slot, place, now, holds, count, push⟩ t s l b tn) (st.load tn (logN (layF t s l b) tn n))) := Lib.hid (fun W m => (refLoad7v m.ref sd hc tn _ 0 0 har.1 har.2).mono (by rintro e w' ⟨rfl, r1, f1⟩; exact ⟨rfl, m.to r1 f1⟩))
  obtain ⟨a1, a2, a3, a4, a5, ha⟩ := load_tells st tn (logN (layF t s l b) tn n)
  rw [ha] at HL
  have hf3 := fun W => fldA3 a1 a2 a3 (peekV st (logN (layF t s l b) tn n)) a4 a5 W
  have wn : IntKind.i64.wrap (n + 1) = n + 1 := i64w _ (by omega) (by omega)
  obtain ⟨rx, hrx⟩ : ∃ rx : R11, (if peekV st (logN (layF t s l b) tn n) = 0 then R11.at ⟨0, 1, n, slot, place, now, holds, count, push⟩ 2 else R11.on (layF t s l b) ⟨0, 1, n, slot, place, now, holds, count, push⟩) = rx := ⟨_, rfl⟩
  rw [hrx]
  have HRx := Lib.hid hrx
  clear hrx ha
  generalize peekV st (logN (layF t s l b) tn n) = v at *
  generalize st.load tn (logN (layF t s l b) tn n) = st1 at *
  generalize logN (layF t s l b) tn n = a at *
  have HP : Hid (∀ W s', RS B w W g R rv gq T o A Z (R11.cells ⟨0, 1, n, slot, place, now, holds, count, push⟩ t s l b tn) s' → (W.cell? ⟨gq, o, none⟩ = some (.int .i64 t) ∧ W.cell? ⟨gq, o + 1, none⟩ = some (.int .i64 s) ∧ W.cell? ⟨gq, o + 2, none⟩ = some (.int .i64 l) ∧ W.cell? ⟨gq, o + 3, none⟩ = some (.int .i64 b)) ∧ W.cell? ⟨gq, o + 4, none⟩ = some (.int .i64 tn) ∧ W.cell? ⟨gq, o + 7, none⟩ = some (.int .i64 n)) := Lib.hid (fun W s' m => ⟨⟨m.blk.cell 0, m.blk.cell 1, m.blk.cell 2, m.blk.cell 3⟩, m.blk.cell 4, m.blk.cell 7⟩)
  have M := Lib.hid (M0.out.ext ((Ext.refl w).drew))
  have c0 : w.cell? ⟨gq, o, none⟩ = some (.int .i64 t) := hb.cell 0
  have c1 : w.cell? ⟨gq, o + 1, none⟩ = some (.int .i64 s) := hb.cell 1
  have c2 : w.cell? ⟨gq, o + 2, none⟩ = some (.int .i64 l) := hb.cell 2
  have c3 : w.cell? ⟨gq, o + 3, none⟩ = some (.int .i64 b) := hb.cell 3
  have c4 : w.cell? ⟨gq, o + 4, none⟩ = some (.int .i64 tn) := hb.cell 4
  have c5 : w.cell? ⟨gq, o + 5, none⟩ = some (.int .i64 0) := hb.cell 5
  have c6 : w.cell? ⟨gq, o + 6, none⟩ = some (.int .i64 1) := hb.cell 6
  have c7 : w.cell? ⟨gq, o + 7, none⟩ = some (.int .i64 n) := hb.cell 7
  clear h hb sd hc har M0
  go_enter Tryz.func67, Tryz.ntmps67
  go_wp2_with fail
  go_region_held3 (fun W => (W.cell? ⟨gq, o, none⟩ = some (.int .i64 t) ∧ W.cell? ⟨gq, o + 1, none⟩ = some (.int .i64 s) ∧ W.cell? ⟨gq, o + 2, none⟩ = some (.int .i64 l) ∧ W.cell? ⟨gq, o + 3, none⟩ = some (.int .i64 b)) ∧ W.cell? ⟨gq, o + 4, none⟩ = some (.int .i64 tn) ∧ W.cell? ⟨gq, o + 7, none⟩ = some (.int .i64 n)) (first | exact HP.out _ _ M.out | go_keep) (first
    | (go_at_call 65; refine (HLg.out _).mono ?_; rintro e w1 ⟨rfl, x1⟩; replace M := Lib.hid (M.out.ext x1); clear x1)
    | (go_at_call 50; refine (HL.out _ M.out).mono ?_; rintro e w1 ⟨rfl, m1⟩; replace M := Lib.hid m1; clear m1))
  all_goals
    have y6 : w1.cell? ⟨gq, o + 6, none⟩ = some (.int .i64 1) := M.out.blk.cell 6
    have z6 : w1.frozen? ⟨gq, o + 6, none⟩ = false := M.out.blk.frozen 6
    have M2 : Hid (RS B w (w1.setCell ⟨gq, o + 6, none⟩ (.int .i64 2)) g R rv gq T o A Z (R11.cells ⟨0, 2, n, slot, place, now, holds, count, push⟩ t s l b tn) st1) := Lib.hid (M.out.put11 (.int .i64 2) (by decide))
    by_cases hv : v = 0
    · have d1 : decide (v = 0) = true := by simpa using hv
      have L0 := HRx.out
      rw [if_pos hv] at L0
      have L1 := Lib.hid L0
      have d2 : (v == 0) = true := by rw [beq_iff_eq]; exact hv
      clear hv L0
      go_wp2_with fail
      (first | (refine bodyPost_ret (results_none rfl _ _ _) rfl ?_) | (refine bodyPost_end (results_none rfl _ _ _) rfl ?_))
      exact ⟨⟨_, rfl⟩, by rw [← L1.out]; exact M2.out⟩
    · have d1 : decide (v = 0) = false := by simpa using hv
      have d2 : (v == 0) = false := by rw [beq_eq_false_iff_ne]; exact hv
      have L0 := HRx.out
      rw [if_neg hv] at L0
      have L1 := Lib.hid L0
      clear hv L0 HRx
      have HRx := L1
      clear M2 y6 z6
      have c7 : w1.cell? ⟨gq, o + 7, none⟩ = some (.int .i64 n) := M.out.blk.cell 7
      have z7 : w1.frozen? ⟨gq, o + 7, none⟩ = false := M.out.blk.frozen 7
      have M1 : Hid (RS B w (w1.setCell ⟨gq, o + 7, none⟩ (.int .i64 (n + 1))) g R rv gq T o A Z (R11.cells ⟨0, 1, (n + 1), slot, place, now, holds, count, push⟩ t s l b tn) st1) := Lib.hid (M.out.put11 (.int .i64 (n + 1)) (by decide))
      go_upto_region 5 with fail
      generalize w1.setCell ⟨gq, o + 7, none⟩ (.int .i64 (n + 1)) = w6 at *
      have y7 : w6.cell? ⟨gq, o + 7, none⟩ = some (.int .i64 (n + 1)) := M1.out.blk.cell 7
      have y2 : w6.cell? ⟨gq, o + 2, none⟩ = some (.int .i64 l) := M1.out.blk.cell 2
      clear c7 z7 M
      go_wp2_with fail
      go_quiet (fail)
      have M := Lib.hid (M1.out.ext (ext_drewN (Ext.refl w6) nq))
      generalize w6.drewN nq = w7 at *
      have y6 : w7.cell? ⟨gq, o + 6, none⟩ = some (.int .i64 1) := M.out.blk.cell 6
      have z6 : w7.frozen? ⟨gq, o + 6, none⟩ = false := M.out.blk.frozen 6
      have M2 : Hid (RS B w (w7.setCell ⟨gq, o + 6, none⟩ (.int .i64 0)) g R rv gq T o A Z (R11.cells ⟨0, 0, (n + 1), slot, place, now, holds, count, push⟩ t s l b tn) st1) := Lib.hid (M.out.put11 (.int .i64 0) (by decide))
      clear y7 y2 M1
      by_cases he : n + 1 = (l : Int)
      · have d1 : (n + 1 == (l : Int)) = true := by rw [beq_iff_eq]; exact he
        have d2 : decide (n + 1 = (l : Int)) = true := by simpa using he
        have L0 : Hid (⟨0, 0, n + 1, slot, place, now, holds, count, push⟩ = rx) := Lib.hid (by
          rw [← HRx.out]
          show (⟨0, 0, n + 1, slot, place, now, holds, count, push⟩ : R11) = ⟨0, if n + 1 = (l : Int) then 0 else 1, n + 1, slot, place, now, holds, count, push⟩
          rw [if_pos he])
        clear he
        go_wp2_with fail
        (first | (refine bodyPost_ret (results_none rfl _ _ _) rfl ?_) | (refine bodyPost_end (results_none rfl _ _ _) rfl ?_))
        exact ⟨⟨_, rfl⟩, by rw [← L0.out]; exact M2.out⟩
      · have d1 : (n + 1 == (l : Int)) = false := by rw [beq_eq_false_iff_ne]; exact he
        have d2 : decide (n + 1 = (l : Int)) = false := by simpa using he
        have L0 : Hid (⟨0, 1, n + 1, slot, place, now, holds, count, push⟩ = rx) := Lib.hid (by
          rw [← HRx.out]
          show (⟨0, 1, n + 1, slot, place, now, holds, count, push⟩ : R11) = ⟨0, if n + 1 = (l : Int) then 0 else 1, n + 1, slot, place, now, holds, count, push⟩
          rw [if_neg he])
        clear he
        go_wp2_with fail
        (first | (refine bodyPost_ret (results_none rfl _ _ _) rfl ?_) | (refine bodyPost_end (results_none rfl _ _ _) rfl ?_))
        exact ⟨⟨_, rfl⟩, by rw [← L0.out]; exact M.out⟩
set_option maxRecDepth 100000 in
set_option maxHeartbeats 8000000 in
theorem resv_2 (h : IsRMem B w g R rv st) (sd : Sound st.dev) (hc : Calm st) (c : CfgN t s l b) (ok : Okay (layF t s l b)) (ho : ¬ rfoot g R rv gq) (hb : Sub w gq T o A Z (R11.cells ⟨0, 2, n, slot, place, now, holds, count, push⟩ t s l b tn)) (hs : I64 slot) :
    Calls Tryz.prog 67 #[.pointer (some ⟨gq, o, none⟩), .pointer (some ⟨g, 0, none⟩)] w (RPostS B w g R rv gq T o A Z (R11.cells ⟨0, 3, n, slot, place, now, holds, count, push⟩ t s l b tn) (st.store tn (logN (layF t s l b) tn n) (entN slot (-1)))) := by
  have M0 := Lib.hid (RS.of h hb ho)
  have har := logN_rng ok tn n
  have HLg := Lib.hid (fun W => rlog_ok (t := t) (s := s) (l := l) (b := b) c tn n W)
  have HL : Hid (∀ W, RS B w W g R rv gq T o A Z (R11.cells ⟨0, 2, n, slot, place, now, holds, count, push⟩ t s l b tn) st → Calls Tryz.prog 50 #[.pointer (some ⟨g, 0, none⟩), .int .i64 2, .int .i64 tn, .int .i64 (logN (layF t s l b) tn n), .int .u64 0, .int .u64 (entN slot (-1))] W fun e w' => (∃ u, e = .returned u) ∧ RS B w w' g R rv gq T o A Z (R11.cells ⟨0, 2, n, slot, place, now, holds, count, push⟩ t s l b tn) (st.store tn (logN (layF t s l b) tn n) (entN slot (-1)))) := Lib.hid (fun W m => (refStore7v m.ref sd hc tn _ 0 _ har.1 har.2).mono (by rintro e w' ⟨rfl, r1, f1⟩; exact ⟨⟨_, rfl⟩, m.to r1 f1⟩))
  have HEn : Hid (∀ W, Calls Tryz.prog 68 #[.int .i64 slot, .int .i64 (-1)] W fun e w' => e = .returned (.int .u64 (entN slot (-1))) ∧ Ext W w') := Lib.hid (fun W => rentry_any slot (-1) hs.1 hs.2 (by decide) (by decide) W)
  generalize st.store tn (logN (layF t s l b) tn n) (entN slot (-1)) = st1 at *
  generalize logN (layF t s l b) tn n = a at *
  have HP : Hid (∀ W s', RS B w W g R rv gq T o A Z (R11.cells ⟨0, 2, n, slot, place, now, holds, count, push⟩ t s l b tn) s' → (W.cell? ⟨gq, o, none⟩ = some (.int .i64 t) ∧ W.cell? ⟨gq, o + 1, none⟩ = some (.int .i64 s) ∧ W.cell? ⟨gq, o + 2, none⟩ = some (.int .i64 l) ∧ W.cell? ⟨gq, o + 3, none⟩ = some (.int .i64 b)) ∧ W.cell? ⟨gq, o + 4, none⟩ = some (.int .i64 tn) ∧ W.cell? ⟨gq, o + 7, none⟩ = some (.int .i64 n) ∧ W.cell? ⟨gq, o + 8, none⟩ = some (.int .i64 slot)) := Lib.hid (fun W s' m => ⟨⟨m.blk.cell 0, m.blk.cell 1, m.blk.cell 2, m.blk.cell 3⟩, m.blk.cell 4, m.blk.cell 7, m.blk.cell 8⟩)
  have M := Lib.hid (M0.out.ext ((Ext.refl w).drew))
  have c0 : w.cell? ⟨gq, o, none⟩ = some (.int .i64 t) := hb.cell 0
  have c1 : w.cell? ⟨gq, o + 1, none⟩ = some (.int .i64 s) := hb.cell 1
  have c2 : w.cell? ⟨gq, o + 2, none⟩ = some (.int .i64 l) := hb.cell 2
  have c3 : w.cell? ⟨gq, o + 3, none⟩ = some (.int .i64 b) := hb.cell 3
  have c4 : w.cell? ⟨gq, o + 4, none⟩ = some (.int .i64 tn) := hb.cell 4
  have c5 : w.cell? ⟨gq, o + 5, none⟩ = some (.int .i64 0) := hb.cell 5
  have c6 : w.cell? ⟨gq, o + 6, none⟩ = some (.int .i64 2) := hb.cell 6
  have c7 : w.cell? ⟨gq, o + 7, none⟩ = some (.int .i64 n) := hb.cell 7
  have c8 : w.cell? ⟨gq, o + 8, none⟩ = some (.int .i64 slot) := hb.cell 8
  clear h hb sd hc har M0
  generalize entN slot (-1) = ew at *
  clear hs
  go_enter Tryz.func67, Tryz.ntmps67
  go_wp2_with fail
  go_region_held3 (fun W => (W.cell? ⟨gq, o, none⟩ = some (.int .i64 t) ∧ W.cell? ⟨gq, o + 1, none⟩ = some (.int .i64 s) ∧ W.cell? ⟨gq, o + 2, none⟩ = some (.int .i64 l) ∧ W.cell? ⟨gq, o + 3, none⟩ = some (.int .i64 b)) ∧ W.cell? ⟨gq, o + 4, none⟩ = some (.int .i64 tn) ∧ W.cell? ⟨gq, o + 7, none⟩ = some (.int .i64 n) ∧ W.cell? ⟨gq, o + 8, none⟩ = some (.int .i64 slot)) (first | exact HP.out _ _ M.out | go_keep) (first
    | (go_at_call 65; refine (HLg.out _).mono ?_; rintro e w1 ⟨rfl, x1⟩; replace M := Lib.hid (M.out.ext x1); clear x1)
    | (go_at_call 68; refine (HEn.out _).mono ?_; rintro e w1 ⟨rfl, x1⟩; replace M := Lib.hid (M.out.ext x1); clear x1)
    | (go_at_call 50; refine (HL.out _ M.out).mono ?_; rintro e w1 ⟨⟨u, rfl⟩, m1⟩; replace M := Lib.hid m1; clear m1))
  all_goals
    have y6 : w1.cell? ⟨gq, o + 6, none⟩ = some (.int .i64 2) := M.out.blk.cell 6
    have z6 : w1.frozen? ⟨gq, o + 6, none⟩ = false := M.out.blk.frozen 6
    have M2 : Hid (RS B w (w1.setCell ⟨gq, o + 6, none⟩ (.int .i64 3)) g R rv gq T o A Z (R11.cells ⟨0, 3, n, slot, place, now, holds, count, push⟩ t s l b tn) st1) := Lib.hid (M.out.put11 (.int .i64 3) (by decide))
    go_wp2_with fail
    (first | (refine bodyPost_ret (results_none rfl _ _ _) rfl ?_) | (refine bodyPost_end (results_none rfl _ _ _) rfl ?_))
    exact ⟨⟨_, rfl⟩, M2.out⟩
set_option maxRecDepth 100000 in
set_option maxHeartbeats 8000000 in
theorem recl_1 (h : IsRMem B w g R rv st) (sd : Sound st.dev) (hc : Calm st) (c : CfgN t s l b) (ok : Okay (layF t s l b)) (ho : ¬ rfoot g R rv gq) (hb : Sub w gq T o A Z (R11.cells ⟨3, 1, n, slot, place, now, holds, count, push⟩ t s l b tn))  :
    Calls Tryz.prog 64 #[.pointer (some ⟨gq, o, none⟩), .pointer (some ⟨g, 0, none⟩)] w (RPostS B w g R rv gq T o A Z (R11.cells ⟨3, 2, n, slot, place, (peekV st (-1)), holds, count, push⟩ t s l b tn) (st.load tn (-1))) := by
  have M0 := Lib.hid (RS.of h hb ho)
  have HL := Lib.hid (refLoad7v h sd hc tn (-1) 0 0 (by decide) (by decide))
  obtain ⟨a1, a2, a3, a4, a5, ha⟩ := load_tells st tn (-1)
  rw [ha] at HL
  have hf3 := fun W => fldA3 a1 a2 a3 (peekV st (-1)) a4 a5 W
  generalize peekV st (-1) = v at *
  generalize st.load tn (-1) = st1 at *
  have c4 : w.cell? ⟨gq, o + 4, none⟩ = some (.int .i64 tn) := hb.cell 4
  have c6 : w.cell? ⟨gq, o + 6, none⟩ = some (.int .i64 1) := hb.cell 6
  clear h hb sd hc ha
  go_enter Tryz.func64, Tryz.ntmps64
  go_wp2_with fail
  refine HL.out.mono ?_
  rintro e w1 ⟨rfl, r1, f1⟩
  have m1 := M0.out.to r1 f1
  have y10 : w1.cell? ⟨gq, o + 10, none⟩ = some (.int .u64 now) := m1.blk.cell 10
  have z10 : w1.frozen? ⟨gq, o + 10, none⟩ = false := m1.blk.frozen 10
  have m2 : RS B w (w1.setCell ⟨gq, o + 10, none⟩ (.int .u64 v)) g R rv gq T o A Z (R11.cells ⟨3, 1, n, slot, place, v, holds, count, push⟩ t s l b tn) st1 := m1.put11 (.int .u64 v) (by decide)
  have y6 : (w1.setCell ⟨gq, o + 10, none⟩ (.int .u64 v)).cell? ⟨gq, o + 6, none⟩ = some (.int .i64 1) := m2.blk.cell 6
  have z6 : (w1.setCell ⟨gq, o + 10, none⟩ (.int .u64 v)).frozen? ⟨gq, o + 6, none⟩ = false := m2.blk.frozen 6
  have M3 : Hid (RS B w ((w1.setCell ⟨gq, o + 10, none⟩ (.int .u64 v)).setCell ⟨gq, o + 6, none⟩ (.int .i64 2)) g R rv gq T o A Z (R11.cells ⟨3, 2, n, slot, place, v, holds, count, push⟩ t s l b tn) st1) := Lib.hid (m2.put11 (.int .i64 2) (by decide))
  clear r1 f1 m1 m2 M0 c4 c6
  go_wp2_with fail
  (first | (refine bodyPost_ret (results_none rfl _ _ _) rfl ?_) | (refine bodyPost_end (results_none rfl _ _ _) rfl ?_))
  exact ⟨⟨_, rfl⟩, M3.out⟩
set_option maxRecDepth 100000 in
set_option maxHeartbeats 8000000 in
theorem recl_2 (h : IsRMem B w g R rv st) (sd : Sound st.dev) (hc : Calm st) (c : CfgN t s l b) (ok : Okay (layF t s l b)) (ho : ¬ rfoot g R rv gq) (hb : Sub w gq T o A Z (R11.cells ⟨3, 2, n, slot, place, now, holds, count, push⟩ t s l b tn)) (hn : 0 ≤ n ∧ n < 1000) (hw : W64 now) (hU : ∀ a, W64 (peekV st a)) :
    Calls Tryz.prog 64 #[.pointer (some ⟨gq, o, none⟩), .pointer (some ⟨g, 0, none⟩)] w (RPostS B w g R rv gq T o A Z ((if overB now (peekV st (logN (layF t s l b) tn n)) = true then ⟨3, 3, n, toN (peekV st (logN (layF t s l b) tn n)), place, now, holds, count, push⟩ else R11.on (layF t s l b) ⟨3, 2, n, slot, place, now, holds, count, push⟩).cells t s l b tn) (st.load tn (logN (layF t s l b) tn n))) := by
  have M0 := Lib.hid (RS.of h hb ho)
  have har := logN_rng ok tn n
  have HLg := Lib.hid (fun W => rlog_ok (t := t) (s := s) (l := l) (b := b) c tn n W)
  have HL : Hid (∀ W, RS B w W g R rv gq T o A Z (R11.cells ⟨3, 2, n, slot, place, now, holds, count, push⟩ t s l b tn) st → Calls Tryz.prog 50 #[.pointer (some ⟨g, 0, none⟩), .int .i64 1, .int .i64 tn, .int .i64 (logN (layF t s l b) tn n), .int .u64 0, .int .u64 0] W fun e w' => e = .returned (accV (st.load tn (logN (layF t s l b) tn n)).last) ∧ RS B w w' g R rv gq T o A Z (R11.cells ⟨3, 2, n, slot, place, now, holds, count, push⟩ t s l b tn) (st.load tn (logN (layF t s l b) tn n))) := Lib.hid (fun W m => (refLoad7v m.ref sd hc tn _ 0 0 har.1 har.2).mono (by rintro e w' ⟨rfl, r1, f1⟩; exact ⟨rfl, m.to r1 f1⟩))
  obtain ⟨a1, a2, a3, a4, a5, ha⟩ := load_tells st tn (logN (layF t s l b) tn n)
  rw [ha] at HL
  have hf3 := fun W => fldA3 a1 a2 a3 (peekV st (logN (layF t s l b) tn n)) a4 a5 W
  have hvw := hU (logN (layF t s l b) tn n)
  have HTo : Hid (∀ W, Calls Tryz.prog 138 #[.int .u64 (peekV st (logN (layF t s l b) tn n))] W fun e w' => e = .returned (.int .i64 (toN (peekV st (logN (layF t s l b) tn n)))) ∧ Ext W w') := Lib.hid (fun W => rto_any _ hvw.1 hvw.2 W)
  have HSp : Hid (∀ W, Calls Tryz.prog 137 #[.int .u64 (peekV st (logN (layF t s l b) tn n))] W fun e w' => e = .returned (.int .i64 (peekV st (logN (layF t s l b) tn n) / 4294967296 - 1)) ∧ Ext W w') := Lib.hid (fun W => rstamp_any _ hvw.1 hvw.2 W)
  have hov := over_eq hw hvw
  have hsr : -1 ≤ peekV st (logN (layF t s l b) tn n) / 4294967296 - 1 ∧ peekV st (logN (layF t s l b) tn n) / 4294967296 - 1 < 4294967296 := by have := hvw.1; have := hvw.2; omega
  have HOn := Lib.hid (fun W (m : RS B w W g R rv gq T o A Z (R11.cells ⟨3, 2, n, slot, place, now, holds, count, push⟩ t s l b tn) (st.load tn (logN (layF t s l b) tn n))) => on11_ok m hn)
  obtain ⟨rx, hrx⟩ : ∃ rx : R11, (if overB now (peekV st (logN (layF t s l b) tn n)) = true then ⟨3, 3, n, toN (peekV st (logN (layF t s l b) tn n)), place, now, holds, count, push⟩ else R11.on (layF t s l b) ⟨3, 2, n, slot, place, now, holds, count, push⟩) = rx := ⟨_, rfl⟩
  rw [hrx]
  rw [hov] at hrx
  generalize peekV st (logN (layF t s l b) tn n) / 4294967296 - 1 = sv at *
  generalize toN (peekV st (logN (layF t s l b) tn n)) = tv at *
  have HRx := Lib.hid hrx
  have HSr := Lib.hid hsr
  have HHw := Lib.hid hw
  clear hrx ha hov hvw hU hsr hw hn
  generalize peekV st (logN (layF t s l b) tn n) = v at *
  generalize st.load tn (logN (layF t s l b) tn n) = st1 at *
  generalize logN (layF t s l b) tn n = a at *
  have HP : Hid (∀ W s', RS B w W g R rv gq T o A Z (R11.cells ⟨3, 2, n, slot, place, now, holds, count, push⟩ t s l b tn) s' → (W.cell? ⟨gq, o, none⟩ = some (.int .i64 t) ∧ W.cell? ⟨gq, o + 1, none⟩ = some (.int .i64 s) ∧ W.cell? ⟨gq, o + 2, none⟩ = some (.int .i64 l) ∧ W.cell? ⟨gq, o + 3, none⟩ = some (.int .i64 b)) ∧ W.cell? ⟨gq, o + 4, none⟩ = some (.int .i64 tn) ∧ W.cell? ⟨gq, o + 7, none⟩ = some (.int .i64 n)) := Lib.hid (fun W s' m => ⟨⟨m.blk.cell 0, m.blk.cell 1, m.blk.cell 2, m.blk.cell 3⟩, m.blk.cell 4, m.blk.cell 7⟩)
  have M := Lib.hid (M0.out.ext ((Ext.refl w).drew))
  have c0 : w.cell? ⟨gq, o, none⟩ = some (.int .i64 t) := hb.cell 0
  have c1 : w.cell? ⟨gq, o + 1, none⟩ = some (.int .i64 s) := hb.cell 1
  have c2 : w.cell? ⟨gq, o + 2, none⟩ = some (.int .i64 l) := hb.cell 2
  have c3 : w.cell? ⟨gq, o + 3, none⟩ = some (.int .i64 b) := hb.cell 3
  have c4 : w.cell? ⟨gq, o + 4, none⟩ = some (.int .i64 tn) := hb.cell 4
  have c5 : w.cell? ⟨gq, o + 5, none⟩ = some (.int .i64 3) := hb.cell 5
  have c6 : w.cell? ⟨gq, o + 6, none⟩ = some (.int .i64 2) := hb.cell 6
  have c7 : w.cell? ⟨gq, o + 7, none⟩ = some (.int .i64 n) := hb.cell 7
  clear h hb sd hc har M0
  go_enter Tryz.func64, Tryz.ntmps64
  go_wp2_with fail
  go_region_held3 (fun W => (W.cell? ⟨gq, o, none⟩ = some (.int .i64 t) ∧ W.cell? ⟨gq, o + 1, none⟩ = some (.int .i64 s) ∧ W.cell? ⟨gq, o + 2, none⟩ = some (.int .i64 l) ∧ W.cell? ⟨gq, o + 3, none⟩ = some (.int .i64 b)) ∧ W.cell? ⟨gq, o + 4, none⟩ = some (.int .i64 tn) ∧ W.cell? ⟨gq, o + 7, none⟩ = some (.int .i64 n)) (first | exact HP.out _ _ M.out | go_keep) (first
    | (go_at_call 65; refine (HLg.out _).mono ?_; rintro e w1 ⟨rfl, x1⟩; replace M := Lib.hid (M.out.ext x1); clear x1)
    | (go_at_call 50; refine (HL.out _ M.out).mono ?_; rintro e w1 ⟨rfl, m1⟩; replace M := Lib.hid m1; clear m1))
  all_goals
    by_cases h1 : 0 ≤ tv
    · by_cases h2 : 0 ≤ sv
      · by_cases h3 : 2 ≤ now
        · by_cases h4 : sv ≤ now - 2
          · have d1 : decide (0 ≤ tv) = true := by simp; omega
            have d2 : decide (0 ≤ sv) = true := by simp; omega
            have d3 : decide (2 ≤ now) = true := by simp; omega
            have d4 : decide (sv ≤ now - 2) = true := by simp; omega
            have w5 : IntKind.u64.wrap sv = sv := u64w _ (by have := HSr.out; omega) (by have := HSr.out; omega)
            have w6 : IntKind.u64.wrap (now - 2) = now - 2 := u64w _ (by have := HHw.out.1; omega) (by have := HHw.out.2; omega)
            clear h1 h2 h3 h4
            have L0 : Hid (⟨3, 3, n, tv, place, now, holds, count, push⟩ = rx) := Lib.hid (by
              rw [← HRx.out]
              simp [d1, d2, d3, d4])
            go_wp2_with fail
            refine (HSp.out _).mono ?_
            rintro e w2 ⟨rfl, x2⟩
            replace M := Lib.hid (M.out.ext x2)
            clear x2
            go_wp2_with fail
            refine (HTo.out _).mono ?_
            rintro e w3 ⟨rfl, x3⟩
            replace M := Lib.hid (M.out.ext x3)
            clear x3
            have y10 : w3.cell? ⟨gq, o + 10, none⟩ = some (.int .u64 now) := M.out.blk.cell 10
            go_wp2_with fail
            refine (HTo.out _).mono ?_
            rintro e w4 ⟨rfl, x4⟩
            replace M := Lib.hid (M.out.ext x4)
            clear x4 y10
            have y8 : w4.cell? ⟨gq, o + 8, none⟩ = some (.int .i64 slot) := M.out.blk.cell 8
            have z8 : w4.frozen? ⟨gq, o + 8, none⟩ = false := M.out.blk.frozen 8
            have m5 : RS B w (w4.setCell ⟨gq, o + 8, none⟩ (.int .i64 tv)) g R rv gq T o A Z (R11.cells ⟨3, 2, n, tv, place, now, holds, count, push⟩ t s l b tn) st1 := M.out.put11 (.int .i64 tv) (by decide)
            have y6 : (w4.setCell ⟨gq, o + 8, none⟩ (.int .i64 tv)).cell? ⟨gq, o + 6, none⟩ = some (.int .i64 2) := m5.blk.cell 6
            have z6 : (w4.setCell ⟨gq, o + 8, none⟩ (.int .i64 tv)).frozen? ⟨gq, o + 6, none⟩ = false := m5.blk.frozen 6
            have M6 : Hid (RS B w ((w4.setCell ⟨gq, o + 8, none⟩ (.int .i64 tv)).setCell ⟨gq, o + 6, none⟩ (.int .i64 3)) g R rv gq T o A Z (R11.cells ⟨3, 3, n, tv, place, now, holds, count, push⟩ t s l b tn) st1) := Lib.hid (m5.put11 (.int .i64 3) (by decide))
            clear m5
            go_wp2_with fail
            (first | (refine bodyPost_ret (results_none rfl _ _ _) rfl ?_) | (refine bodyPost_end (results_none rfl _ _ _) rfl ?_))
            exact ⟨⟨_, rfl⟩, by rw [← L0.out]; exact M6.out⟩
          · have d1 : decide (0 ≤ tv) = true := by simp; omega
            have d2 : decide (0 ≤ sv) = true := by simp; omega
            have d3 : decide (2 ≤ now) = true := by simp; omega
            have d4 : decide (sv ≤ now - 2) = false := by simp; omega
            have w5 : IntKind.u64.wrap sv = sv := u64w _ (by have := HSr.out; omega) (by have := HSr.out; omega)
            have w6 : IntKind.u64.wrap (now - 2) = now - 2 := u64w _ (by have := HHw.out.1; omega) (by have := HHw.out.2; omega)
            clear h1 h2 h3 h4
            have L0 : Hid (R11.on (layF t s l b) ⟨3, 2, n, slot, place, now, holds, count, push⟩ = rx) := Lib.hid (by
              rw [← HRx.out]
              simp [d1, d2, d3, d4])
            go_wp2_with fail
            refine (HSp.out _).mono ?_
            rintro e w2 ⟨rfl, x2⟩
            replace M := Lib.hid (M.out.ext x2)
            clear x2
            go_wp2_with fail
            refine (HTo.out _).mono ?_
            rintro e w3 ⟨rfl, x3⟩
            replace M := Lib.hid (M.out.ext x3)
            clear x3
            have y10 : w3.cell? ⟨gq, o + 10, none⟩ = some (.int .u64 now) := M.out.blk.cell 10
            go_wp2_with fail
            refine (HOn.out _ M.out).mono ?_
            rintro e w4 ⟨⟨u, rfl⟩, m4⟩
            rw [L0.out] at m4
            have M4 := Lib.hid m4
            clear m4
            go_wp2_with fail
            (first | (refine bodyPost_ret (results_none rfl _ _ _) rfl ?_) | (refine bodyPost_end (results_none rfl _ _ _) rfl ?_))
            exact ⟨⟨_, rfl⟩, M4.out⟩
        · have d1 : decide (0 ≤ tv) = true := by simp; omega
          have d2 : decide (0 ≤ sv) = true := by simp; omega
          have d3 : decide (2 ≤ now) = false := by simp; omega
          clear h1 h2 h3
          have L0 : Hid (R11.on (layF t s l b) ⟨3, 2, n, slot, place, now, holds, count, push⟩ = rx) := Lib.hid (by
            rw [← HRx.out]
            simp [d1, d2, d3])
          go_wp2_with fail
          refine (HSp.out _).mono ?_
          rintro e w2 ⟨rfl, x2⟩
          replace M := Lib.hid (M.out.ext x2)
          clear x2
          go_wp2_with fail
          refine (HTo.out _).mono ?_
          rintro e w3 ⟨rfl, x3⟩
          replace M := Lib.hid (M.out.ext x3)
          clear x3
          have y10 : w3.cell? ⟨gq, o + 10, none⟩ = some (.int .u64 now) := M.out.blk.cell 10
          go_wp2_with fail
          refine (HOn.out _ M.out).mono ?_
          rintro e w4 ⟨⟨u, rfl⟩, m4⟩
          rw [L0.out] at m4
          have M4 := Lib.hid m4
          clear m4
          go_wp2_with fail
          (first | (refine bodyPost_ret (results_none rfl _ _ _) rfl ?_) | (refine bodyPost_end (results_none rfl _ _ _) rfl ?_))
          exact ⟨⟨_, rfl⟩, M4.out⟩
      · have d1 : decide (0 ≤ tv) = true := by simp; omega
        have d2 : decide (0 ≤ sv) = false := by simp; omega
        clear h1 h2
        have L0 : Hid (R11.on (layF t s l b) ⟨3, 2, n, slot, place, now, holds, count, push⟩ = rx) := Lib.hid (by
          rw [← HRx.out]
          simp [d1, d2])
        go_wp2_with fail
        refine (HSp.out _).mono ?_
        rintro e w2 ⟨rfl, x2⟩
        replace M := Lib.hid (M.out.ext x2)
        clear x2
        go_wp2_with fail
        refine (HTo.out _).mono ?_
        rintro e w3 ⟨rfl, x3⟩
        replace M := Lib.hid (M.out.ext x3)
        clear x3
        have y10 : w3.cell? ⟨gq, o + 10, none⟩ = some (.int .u64 now) := M.out.blk.cell 10
        go_wp2_with fail
        refine (HOn.out _ M.out).mono ?_
        rintro e w4 ⟨⟨u, rfl⟩, m4⟩
        rw [L0.out] at m4
        have M4 := Lib.hid m4
        clear m4
        go_wp2_with fail
        (first | (refine bodyPost_ret (results_none rfl _ _ _) rfl ?_) | (refine bodyPost_end (results_none rfl _ _ _) rfl ?_))
        exact ⟨⟨_, rfl⟩, M4.out⟩
    · have d1 : decide (0 ≤ tv) = false := by simp; omega
      clear h1
      have L0 : Hid (R11.on (layF t s l b) ⟨3, 2, n, slot, place, now, holds, count, push⟩ = rx) := Lib.hid (by
        rw [← HRx.out]
        simp [d1])
      go_wp2_with fail
      refine (HSp.out _).mono ?_
      rintro e w2 ⟨rfl, x2⟩
      replace M := Lib.hid (M.out.ext x2)
      clear x2
      go_wp2_with fail
      refine (HTo.out _).mono ?_
      rintro e w3 ⟨rfl, x3⟩
      replace M := Lib.hid (M.out.ext x3)
      clear x3
      have y10 : w3.cell? ⟨gq, o + 10, none⟩ = some (.int .u64 now) := M.out.blk.cell 10
      go_wp2_with fail
      refine (HOn.out _ M.out).mono ?_
      rintro e w4 ⟨⟨u, rfl⟩, m4⟩
      rw [L0.out] at m4
      have M4 := Lib.hid m4
      clear m4
      go_wp2_with fail
      (first | (refine bodyPost_ret (results_none rfl _ _ _) rfl ?_) | (refine bodyPost_end (results_none rfl _ _ _) rfl ?_))
      exact ⟨⟨_, rfl⟩, M4.out⟩
end
end Go.Proofs.YtbicloceaddinaaGreat


/- The document's Reclaim inside others: what it gives back. Conditions: those that each theorem names. -/
namespace Go.Proofs.YtbicloceaddinaaGreat
open Go.ChangeShapes Go.WideShapes Go.ChangeAt Go.RowKit
set_option linter.unusedVariables false
section
variable {B : Nat} {w w0 : World} {g : Nat} {R : RefB} {rv : Value} {gq : Nat} {T : TypeId} {o : Nat} {A Z : List Value} {st : MSt} {t s l b : Nat} {tn : Int} {kind line n slot place now holds count : Int} {push : Option RPu} {p : RPu}
theorem pcs_len (t s l b tn : Int) (p : Option RPu) : (pcs t s l b tn p).length = 8 := by cases p <;> rfl
/-- A Push is put into it whole. -/
theorem RS.putPush {x : R11} (h : RS B w0 w g R rv gq T o A Z (x.cells t s l b tn) st) (r : RPu) : RS B w0 (w.setCells gq (o + 13) (r.cells t s l b tn)) g R rv gq T o A Z ((⟨x.kind, x.line, x.n, x.slot, x.place, x.now, x.holds, x.count, some r⟩ : R11).cells t s l b tn) st := by
  have key : ∀ (cs : List Value), cs.length = 21 → RS B w0 w g R rv gq T o A Z cs st → RS B w0 (w.setCells gq (o + 13) (r.cells t s l b tn)) g R rv gq T o A Z ((((((((cs.set 13 (.int .i64 t)).set 14 (.int .i64 s)).set 15 (.int .i64 l)).set 16 (.int .i64 b)).set 17 (.int .i64 tn)).set 18 (.int .i64 r.line)).set 19 (.int .u64 r.top)).set 20 (.int .i64 r.slot)) st := fun cs hl h =>
    ((((((((h.put 13 _ (by rw [hl]; rfl)).put 14 _ (by simp only [List.length_set]; rw [hl]; rfl)).put 15 _ (by simp only [List.length_set]; rw [hl]; rfl)).put 16 _ (by simp only [List.length_set]; rw [hl]; rfl)).put 17 _ (by simp only [List.length_set]; rw [hl]; rfl)).put 18 _ (by simp only [List.length_set]; rw [hl]; rfl)).put 19 _ (by simp only [List.length_set]; rw [hl]; rfl)).put 20 _ (by simp only [List.length_set]; rw [hl]; rfl))
  have hl : (x.cells t s l b tn).length = 21 := by unfold R11.cells; rw [List.length_append, pcs_len]; rfl
  have h2 := key _ hl h
  obtain ⟨kind, line, n, slot, place, now, holds, count, push⟩ := x
  cases push
  · exact h2
  · exact h2
theorem RS.old {x : R11} (h : RS B w0 w g R rv gq T o A Z (x.cells t s l b tn) st) (i : Nat) (hi : i < 21) : ∃ v, w.cell? ⟨gq, o + i, none⟩ = some v := by
  have hl : (x.cells t s l b tn).length = 21 := by unfold R11.cells; rw [List.length_append, pcs_len]; rfl
  obtain ⟨v, hv⟩ : ∃ v, (x.cells t s l b tn)[i]? = some v := ⟨_, List.getElem?_eq_getElem (by omega)⟩
  exact ⟨v, h.blk.cell i hv⟩
theorem R11.sub {x : R11} {r : RPu} (hp : x.push = some r) (h : Sub w gq T o A Z (x.cells t s l b tn)) : Sub w gq T (o + 13) (A ++ x.front t s l b tn) Z (r.cells t s l b tn) := by
  have e : x.cells t s l b tn = x.front t s l b tn ++ r.cells t s l b tn := by unfold R11.cells; rw [hp]; rfl
  obtain ⟨hb, hl⟩ := h
  refine ⟨?_, ?_⟩
  · rw [List.append_assoc, ← List.append_assoc (x.front t s l b tn), ← e]
    exact hb
  · rw [List.length_append, hl]; rfl
theorem R11.unsub {x : R11} {r : RPu} (h : Sub w gq T (o + 13) (A ++ x.front t s l b tn) Z (r.cells t s l b tn)) (hA : A.length = o) : Sub w gq T o A Z ((⟨x.kind, x.line, x.n, x.slot, x.place, x.now, x.holds, x.count, some r⟩ : R11).cells t s l b tn) := by
  obtain ⟨hb, hl⟩ := h
  refine ⟨?_, hA⟩
  rw [List.append_assoc] at hb
  show Blk w gq T (A ++ ((x.front t s l b tn ++ r.cells t s l b tn) ++ Z))
  rw [List.append_assoc]
  exact hb
set_option maxRecDepth 100000 in
set_option maxHeartbeats 8000000 in
theorem recl_3 (h : IsRMem B w g R rv st) (sd : Sound st.dev) (hc : Calm st) (c : CfgN t s l b) (ok : Okay (layF t s l b)) (ho : ¬ rfoot g R rv gq) (hb : Sub w gq T o A Z (R11.cells ⟨3, 3, n, slot, place, now, holds, count, push⟩ t s l b tn))  :
    Calls Tryz.prog 64 #[.pointer (some ⟨gq, o, none⟩), .pointer (some ⟨g, 0, none⟩)] w (RPostS B w g R rv gq T o A Z (R11.cells ⟨3, 4, n, slot, place, now, slot, count, (some ⟨1, 0, slot⟩)⟩ t s l b tn) (st.store tn (logN (layF t s l b) tn n) 0)) := by
  have M0 := Lib.hid (RS.of h hb ho)
  have har := logN_rng ok tn n
  have HLg := Lib.hid (fun W => rlog_ok (t := t) (s := s) (l := l) (b := b) c tn n W)
  have HL : Hid (∀ W, RS B w W g R rv gq T o A Z (R11.cells ⟨3, 3, n, slot, place, now, holds, count, push⟩ t s l b tn) st → Calls Tryz.prog 50 #[.pointer (some ⟨g, 0, none⟩), .int .i64 2, .int .i64 tn, .int .i64 (logN (layF t s l b) tn n), .int .u64 0, .int .u64 0] W fun e w' => (∃ u, e = .returned u) ∧ RS B w w' g R rv gq T o A Z (R11.cells ⟨3, 3, n, slot, place, now, holds, count, push⟩ t s l b tn) (st.store tn (logN (layF t s l b) tn n) 0)) := Lib.hid (fun W m => (refStore7v m.ref sd hc tn _ 0 _ har.1 har.2).mono (by rintro e w' ⟨rfl, r1, f1⟩; exact ⟨⟨_, rfl⟩, m.to r1 f1⟩))
  generalize st.store tn (logN (layF t s l b) tn n) 0 = st1 at *
  generalize logN (layF t s l b) tn n = a at *
  have HP : Hid (∀ W s', RS B w W g R rv gq T o A Z (R11.cells ⟨3, 3, n, slot, place, now, holds, count, push⟩ t s l b tn) s' → (W.cell? ⟨gq, o, none⟩ = some (.int .i64 t) ∧ W.cell? ⟨gq, o + 1, none⟩ = some (.int .i64 s) ∧ W.cell? ⟨gq, o + 2, none⟩ = some (.int .i64 l) ∧ W.cell? ⟨gq, o + 3, none⟩ = some (.int .i64 b)) ∧ W.cell? ⟨gq, o + 4, none⟩ = some (.int .i64 tn) ∧ W.cell? ⟨gq, o + 7, none⟩ = some (.int .i64 n)) := Lib.hid (fun W s' m => ⟨⟨m.blk.cell 0, m.blk.cell 1, m.blk.cell 2, m.blk.cell 3⟩, m.blk.cell 4, m.blk.cell 7⟩)
  have M := Lib.hid (M0.out.ext ((Ext.refl w).drew))
  have c0 : w.cell? ⟨gq, o, none⟩ = some (.int .i64 t) := hb.cell 0
  have c1 : w.cell? ⟨gq, o + 1, none⟩ = some (.int .i64 s) := hb.cell 1
  have c2 : w.cell? ⟨gq, o + 2, none⟩ = some (.int .i64 l) := hb.cell 2
  have c3 : w.cell? ⟨gq, o + 3, none⟩ = some (.int .i64 b) := hb.cell 3
  have c4 : w.cell? ⟨gq, o + 4, none⟩ = some (.int .i64 tn) := hb.cell 4
  have c5 : w.cell? ⟨gq, o + 5, none⟩ = some (.int .i64 3) := hb.cell 5
  have c6 : w.cell? ⟨gq, o + 6, none⟩ = some (.int .i64 3) := hb.cell 6
  have c7 : w.cell? ⟨gq, o + 7, none⟩ = some (.int .i64 n) := hb.cell 7
  clear h hb sd hc har M0
  go_enter Tryz.func64, Tryz.ntmps64
  go_wp2_with fail
  go_region_held3 (fun W => (W.cell? ⟨gq, o, none⟩ = some (.int .i64 t) ∧ W.cell? ⟨gq, o + 1, none⟩ = some (.int .i64 s) ∧ W.cell? ⟨gq, o + 2, none⟩ = some (.int .i64 l) ∧ W.cell? ⟨gq, o + 3, none⟩ = some (.int .i64 b)) ∧ W.cell? ⟨gq, o + 4, none⟩ = some (.int .i64 tn) ∧ W.cell? ⟨gq, o + 7, none⟩ = some (.int .i64 n)) (first | exact HP.out _ _ M.out | go_keep) (first
    | (go_at_call 65; refine (HLg.out _).mono ?_; rintro e w1 ⟨rfl, x1⟩; replace M := Lib.hid (M.out.ext x1); clear x1)
    | (go_at_call 50; refine (HL.out _ M.out).mono ?_; rintro e w1 ⟨⟨u, rfl⟩, m1⟩; replace M := Lib.hid m1; clear m1))
  all_goals
    have y8 : w1.cell? ⟨gq, o + 8, none⟩ = some (.int .i64 slot) := M.out.blk.cell 8
    have y11 : w1.cell? ⟨gq, o + 11, none⟩ = some (.int .i64 holds) := M.out.blk.cell 11
    have z11 : w1.frozen? ⟨gq, o + 11, none⟩ = false := M.out.blk.frozen 11
    have M2 : Hid (RS B w (w1.setCell ⟨gq, o + 11, none⟩ (.int .i64 slot)) g R rv gq T o A Z (R11.cells ⟨3, 3, n, slot, place, now, slot, count, push⟩ t s l b tn) st1) := Lib.hid (M.out.put11 (.int .i64 slot) (by decide))
    go_upto_region 13 with fail
    generalize w1.setCell ⟨gq, o + 11, none⟩ (.int .i64 slot) = w2 at *
    clear y8 y11 z11 M
    have y0 : w2.cell? ⟨gq, o, none⟩ = some (.int .i64 t) := M2.out.blk.cell 0
    have y1 : w2.cell? ⟨gq, o + 1, none⟩ = some (.int .i64 s) := M2.out.blk.cell 1
    have y2 : w2.cell? ⟨gq, o + 2, none⟩ = some (.int .i64 l) := M2.out.blk.cell 2
    have y3 : w2.cell? ⟨gq, o + 3, none⟩ = some (.int .i64 b) := M2.out.blk.cell 3
    have y4 : w2.cell? ⟨gq, o + 4, none⟩ = some (.int .i64 tn) := M2.out.blk.cell 4
    have y8 : w2.cell? ⟨gq, o + 8, none⟩ = some (.int .i64 slot) := M2.out.blk.cell 8
    obtain ⟨p13, q13⟩ := M2.out.old 13 (by decide)
    have f13 : w2.frozen? ⟨gq, o + 13, none⟩ = false := M2.out.blk.frozen 13
    obtain ⟨p14, q14⟩ := M2.out.old 14 (by decide)
    have f14 : w2.frozen? ⟨gq, o + 14, none⟩ = false := M2.out.blk.frozen 14
    obtain ⟨p15, q15⟩ := M2.out.old 15 (by decide)
    have f15 : w2.frozen? ⟨gq, o + 15, none⟩ = false := M2.out.blk.frozen 15
    obtain ⟨p16, q16⟩ := M2.out.old 16 (by decide)
    have f16 : w2.frozen? ⟨gq, o + 16, none⟩ = false := M2.out.blk.frozen 16
    obtain ⟨p17, q17⟩ := M2.out.old 17 (by decide)
    have f17 : w2.frozen? ⟨gq, o + 17, none⟩ = false := M2.out.blk.frozen 17
    obtain ⟨p18, q18⟩ := M2.out.old 18 (by decide)
    have f18 : w2.frozen? ⟨gq, o + 18, none⟩ = false := M2.out.blk.frozen 18
    obtain ⟨p19, q19⟩ := M2.out.old 19 (by decide)
    have f19 : w2.frozen? ⟨gq, o + 19, none⟩ = false := M2.out.blk.frozen 19
    obtain ⟨p20, q20⟩ := M2.out.old 20 (by decide)
    have f20 : w2.frozen? ⟨gq, o + 20, none⟩ = false := M2.out.blk.frozen 20
    have M3 : Hid (RS B w (((((((((w2.setCell ⟨gq, o + 13, none⟩ (.int .i64 t)).setCell ⟨gq, o + 13 + 1, none⟩ (.int .i64 s)).setCell ⟨gq, o + 13 + 2, none⟩ (.int .i64 l)).setCell ⟨gq, o + 13 + 3, none⟩ (.int .i64 b)).setCell ⟨gq, o + 13 + 4, none⟩ (.int .i64 tn)).setCell ⟨gq, o + 13 + 5, none⟩ (.int .i64 1)).setCell ⟨gq, o + 13 + 6, none⟩ (.int .u64 0)).setCell ⟨gq, o + 13 + 7, none⟩ (.int .i64 slot)).drew) g R rv gq T o A Z (R11.cells ⟨3, 3, n, slot, place, now, slot, count, (some ⟨1, 0, slot⟩)⟩ t s l b tn) st1) := Lib.hid ((M2.out.putPush ⟨1, 0, slot⟩).ext ((Ext.refl _).drew))
    have HP3 : Hid (((((((((((w2.setCell ⟨gq, o + 13, none⟩ (.int .i64 t)).setCell ⟨gq, o + 13 + 1, none⟩ (.int .i64 s)).setCell ⟨gq, o + 13 + 2, none⟩ (.int .i64 l)).setCell ⟨gq, o + 13 + 3, none⟩ (.int .i64 b)).setCell ⟨gq, o + 13 + 4, none⟩ (.int .i64 tn)).setCell ⟨gq, o + 13 + 5, none⟩ (.int .i64 1)).setCell ⟨gq, o + 13 + 6, none⟩ (.int .u64 0)).setCell ⟨gq, o + 13 + 7, none⟩ (.int .i64 slot)).drew).cell? ⟨gq, o, none⟩ = some (.int .i64 t) ∧ (((((((((w2.setCell ⟨gq, o + 13, none⟩ (.int .i64 t)).setCell ⟨gq, o + 13 + 1, none⟩ (.int .i64 s)).setCell ⟨gq, o + 13 + 2, none⟩ (.int .i64 l)).setCell ⟨gq, o + 13 + 3, none⟩ (.int .i64 b)).setCell ⟨gq, o + 13 + 4, none⟩ (.int .i64 tn)).setCell ⟨gq, o + 13 + 5, none⟩ (.int .i64 1)).setCell ⟨gq, o + 13 + 6, none⟩ (.int .u64 0)).setCell ⟨gq, o + 13 + 7, none⟩ (.int .i64 slot)).drew).cell? ⟨gq, o + 1, none⟩ = some (.int .i64 s) ∧ (((((((((w2.setCell ⟨gq, o + 13, none⟩ (.int .i64 t)).setCell ⟨gq, o + 13 + 1, none⟩ (.int .i64 s)).setCell ⟨gq, o + 13 + 2, none⟩ (.int .i64 l)).setCell ⟨gq, o + 13 + 3, none⟩ (.int .i64 b)).setCell ⟨gq, o + 13 + 4, none⟩ (.int .i64 tn)).setCell ⟨gq, o + 13 + 5, none⟩ (.int .i64 1)).setCell ⟨gq, o + 13 + 6, none⟩ (.int .u64 0)).setCell ⟨gq, o + 13 + 7, none⟩ (.int .i64 slot)).drew).cell? ⟨gq, o + 2, none⟩ = some (.int .i64 l) ∧ (((((((((w2.setCell ⟨gq, o + 13, none⟩ (.int .i64 t)).setCell ⟨gq, o + 13 + 1, none⟩ (.int .i64 s)).setCell ⟨gq, o + 13 + 2, none⟩ (.int .i64 l)).setCell ⟨gq, o + 13 + 3, none⟩ (.int .i64 b)).setCell ⟨gq, o + 13 + 4, none⟩ (.int .i64 tn)).setCell ⟨gq, o + 13 + 5, none⟩ (.int .i64 1)).setCell ⟨gq, o + 13 + 6, none⟩ (.int .u64 0)).setCell ⟨gq, o + 13 + 7, none⟩ (.int .i64 slot)).drew).cell? ⟨gq, o + 3, none⟩ = some (.int .i64 b)) ∧ (((((((((w2.setCell ⟨gq, o + 13, none⟩ (.int .i64 t)).setCell ⟨gq, o + 13 + 1, none⟩ (.int .i64 s)).setCell ⟨gq, o + 13 + 2, none⟩ (.int .i64 l)).setCell ⟨gq, o + 13 + 3, none⟩ (.int .i64 b)).setCell ⟨gq, o + 13 + 4, none⟩ (.int .i64 tn)).setCell ⟨gq, o + 13 + 5, none⟩ (.int .i64 1)).setCell ⟨gq, o + 13 + 6, none⟩ (.int .u64 0)).setCell ⟨gq, o + 13 + 7, none⟩ (.int .i64 slot)).drew).cell? ⟨gq, o + 4, none⟩ = some (.int .i64 tn) ∧ (((((((((w2.setCell ⟨gq, o + 13, none⟩ (.int .i64 t)).setCell ⟨gq, o + 13 + 1, none⟩ (.int .i64 s)).setCell ⟨gq, o + 13 + 2, none⟩ (.int .i64 l)).setCell ⟨gq, o + 13 + 3, none⟩ (.int .i64 b)).setCell ⟨gq, o + 13 + 4, none⟩ (.int .i64 tn)).setCell ⟨gq, o + 13 + 5, none⟩ (.int .i64 1)).setCell ⟨gq, o + 13 + 6, none⟩ (.int .u64 0)).setCell ⟨gq, o + 13 + 7, none⟩ (.int .i64 slot)).drew).cell? ⟨gq, o + 8, none⟩ = some (.int .i64 slot)) := Lib.hid ⟨⟨M3.out.blk.cell 0, M3.out.blk.cell 1, M3.out.blk.cell 2, M3.out.blk.cell 3⟩, M3.out.blk.cell 4, M3.out.blk.cell 8⟩
    go_wp2_with fail
    go_region_held3 (fun W => (W.cell? ⟨gq, o, none⟩ = some (.int .i64 t) ∧ W.cell? ⟨gq, o + 1, none⟩ = some (.int .i64 s) ∧ W.cell? ⟨gq, o + 2, none⟩ = some (.int .i64 l) ∧ W.cell? ⟨gq, o + 3, none⟩ = some (.int .i64 b)) ∧ W.cell? ⟨gq, o + 4, none⟩ = some (.int .i64 tn) ∧ W.cell? ⟨gq, o + 8, none⟩ = some (.int .i64 slot)) (first | (with_reducible exact HP3.out) | go_keep) (fail)
    generalize ((((((((w2.setCell ⟨gq, o + 13, none⟩ (.int .i64 t)).setCell ⟨gq, o + 13 + 1, none⟩ (.int .i64 s)).setCell ⟨gq, o + 13 + 2, none⟩ (.int .i64 l)).setCell ⟨gq, o + 13 + 3, none⟩ (.int .i64 b)).setCell ⟨gq, o + 13 + 4, none⟩ (.int .i64 tn)).setCell ⟨gq, o + 13 + 5, none⟩ (.int .i64 1)).setCell ⟨gq, o + 13 + 6, none⟩ (.int .u64 0)).setCell ⟨gq, o + 13 + 7, none⟩ (.int .i64 slot)).drew = w4 at *
    have y6 : w4.cell? ⟨gq, o + 6, none⟩ = some (.int .i64 3) := M3.out.blk.cell 6
    have z6 : w4.frozen? ⟨gq, o + 6, none⟩ = false := M3.out.blk.frozen 6
    have M4 : Hid (RS B w (w4.setCell ⟨gq, o + 6, none⟩ (.int .i64 4)) g R rv gq T o A Z (R11.cells ⟨3, 4, n, slot, place, now, slot, count, (some ⟨1, 0, slot⟩)⟩ t s l b tn) st1) := Lib.hid (M3.out.put11 (.int .i64 4) (by decide))
    clear y0 y1 y2 y3 y4 y8 HP3 q13 f13 q14 f14 q15 f15 q16 f16 q17 f17 q18 f18 q19 f19 q20 f20
    go_wp2_with fail
    (first | (refine bodyPost_ret (results_none rfl _ _ _) rfl ?_) | (refine bodyPost_end (results_none rfl _ _ _) rfl ?_))
    exact ⟨⟨_, rfl⟩, M4.out⟩
set_option maxRecDepth 100000 in
set_option maxHeartbeats 8000000 in
theorem recl_4 (h : IsRMem B w g R rv st) (sd : Sound st.dev) (hc : Calm st) (c : CfgN t s l b) (ok : Okay (layF t s l b)) (ho : ¬ rfoot g R rv gq) (hb : Sub w gq T o A Z (R11.cells ⟨3, 4, n, slot, place, now, holds, count, (some p)⟩ t s l b tn)) (hn : 0 ≤ n ∧ n < 1000) (hct : 0 ≤ count ∧ count < 1000) (hr : p.Wf) (hU : ∀ a, W64 (peekV st a)) :
    Calls Tryz.prog 64 #[.pointer (some ⟨gq, o, none⟩), .pointer (some ⟨g, 0, none⟩)] w (RPostS B w g R rv gq T o A Z ((if (rpushS (layF t s l b) tn p st).1.line = 0 then R11.on (layF t s l b) ⟨3, 2, n, slot, place, now, (-1), (count + 1), (some (rpushS (layF t s l b) tn p st).1)⟩ else ⟨3, 4, n, slot, place, now, holds, count, (some (rpushS (layF t s l b) tn p st).1)⟩).cells t s l b tn) ((rpushS (layF t s l b) tn p st).2)) := by
  have hS : Sub w gq T (o + 13) (A ++ R11.front ⟨3, 4, n, slot, place, now, holds, count, (some p)⟩ t s l b tn) Z (p.cells t s l b tn) := R11.sub rfl hb
  have hlA := hb.len
  have c5 : w.cell? ⟨gq, o + 5, none⟩ = some (.int .i64 3) := hb.cell 5
  have c6 : w.cell? ⟨gq, o + 6, none⟩ = some (.int .i64 4) := hb.cell 6
  have HSt := Lib.hid (spush_ok h sd hc c ok hS ho hr hU)
  generalize rpushS (layF t s l b) tn p st = r at *
  obtain ⟨p', st'⟩ := r
  obtain ⟨ln, tp, sl'⟩ := p'
  simp only
  obtain ⟨rx, hrx⟩ : ∃ rx : R11, (if ln = 0 then R11.on (layF t s l b) ⟨3, 2, n, slot, place, now, (-1), (count + 1), (some ⟨ln, tp, sl'⟩)⟩ else ⟨3, 4, n, slot, place, now, holds, count, (some ⟨ln, tp, sl'⟩)⟩) = rx := ⟨_, rfl⟩
  rw [hrx]
  have HRx := Lib.hid hrx
  have HOn := Lib.hid (fun W (m : RS B w W g R rv gq T o A Z (R11.cells ⟨3, 2, n, slot, place, now, (-1), (count + 1), (some ⟨ln, tp, sl'⟩)⟩ t s l b tn) st') => on11_ok m hn)
  have wct : IntKind.i64.wrap (count + 1) = count + 1 := i64w _ (by omega) (by omega)
  clear h hb sd hc hU hS hr hn hct hrx
  go_enter Tryz.func64, Tryz.ntmps64
  go_wp2_with fail
  refine HSt.out.mono ?_
  rintro e w1 ⟨⟨u, rfl⟩, rs⟩
  have M : Hid (RS B w w1 g R rv gq T o A Z (R11.cells ⟨3, 4, n, slot, place, now, holds, count, (some ⟨ln, tp, sl'⟩)⟩ t s l b tn) st') := Lib.hid ⟨rs.ref, R11.unsub rs.blk hlA, rs.fr, rs.off⟩
  have y18 : w1.cell? ⟨gq, o + 13 + 5, none⟩ = some (.int .i64 ln) := M.out.blk.cell 18
  have y18b : w1.cell? ⟨gq, o + 18, none⟩ = some (.int .i64 ln) := y18
  clear rs HSt c5 c6
  by_cases hl : ln = 0
  · have e0 : decide (ln = 0) = true := by simpa using hl
    have e1 : (ln == 0) = true := by rw [beq_iff_eq]; exact hl
    have L0 := HRx.out
    rw [if_pos hl] at L0
    have L1 := Lib.hid L0
    clear L0 HRx hl
    have y11 : w1.cell? ⟨gq, o + 11, none⟩ = some (.int .i64 holds) := M.out.blk.cell 11
    have z11 : w1.frozen? ⟨gq, o + 11, none⟩ = false := M.out.blk.frozen 11
    have m2 : RS B w (w1.setCell ⟨gq, o + 11, none⟩ (.int .i64 (-1))) g R rv gq T o A Z (R11.cells ⟨3, 4, n, slot, place, now, (-1), count, (some ⟨ln, tp, sl'⟩)⟩ t s l b tn) st' := M.out.put11 (.int .i64 (-1)) (by decide)
    have y12 : (w1.setCell ⟨gq, o + 11, none⟩ (.int .i64 (-1))).cell? ⟨gq, o + 12, none⟩ = some (.int .i64 count) := m2.blk.cell 12
    have z12 : (w1.setCell ⟨gq, o + 11, none⟩ (.int .i64 (-1))).frozen? ⟨gq, o + 12, none⟩ = false := m2.blk.frozen 12
    have m3 : RS B w ((w1.setCell ⟨gq, o + 11, none⟩ (.int .i64 (-1))).setCell ⟨gq, o + 12, none⟩ (.int .i64 (count + 1))) g R rv gq T o A Z (R11.cells ⟨3, 4, n, slot, place, now, (-1), (count + 1), (some ⟨ln, tp, sl'⟩)⟩ t s l b tn) st' := m2.put11 (.int .i64 (count + 1)) (by decide)
    have y6 : ((w1.setCell ⟨gq, o + 11, none⟩ (.int .i64 (-1))).setCell ⟨gq, o + 12, none⟩ (.int .i64 (count + 1))).cell? ⟨gq, o + 6, none⟩ = some (.int .i64 4) := m3.blk.cell 6
    have z6 : ((w1.setCell ⟨gq, o + 11, none⟩ (.int .i64 (-1))).setCell ⟨gq, o + 12, none⟩ (.int .i64 (count + 1))).frozen? ⟨gq, o + 6, none⟩ = false := m3.blk.frozen 6
    have M4 : Hid (RS B w (((w1.setCell ⟨gq, o + 11, none⟩ (.int .i64 (-1))).setCell ⟨gq, o + 12, none⟩ (.int .i64 (count + 1))).setCell ⟨gq, o + 6, none⟩ (.int .i64 2)) g R rv gq T o A Z (R11.cells ⟨3, 2, n, slot, place, now, (-1), (count + 1), (some ⟨ln, tp, sl'⟩)⟩ t s l b tn) st') := Lib.hid (m3.put11 (.int .i64 2) (by decide))
    clear m2 m3
    go_wp2_with fail
    refine (HOn.out _ M4.out).mono ?_
    rintro e w4 ⟨⟨u, rfl⟩, m4⟩
    rw [L1.out] at m4
    have M5 := Lib.hid m4
    clear m4
    go_wp2_with fail
    (first | (refine bodyPost_ret (results_none rfl _ _ _) rfl ?_) | (refine bodyPost_end (results_none rfl _ _ _) rfl ?_))
    exact ⟨⟨_, rfl⟩, M5.out⟩
  · have e0 : decide (ln = 0) = false := by simpa using hl
    have e1 : (ln == 0) = false := by rw [beq_eq_false_iff_ne]; exact hl
    have L0 := HRx.out
    rw [if_neg hl] at L0
    have L1 := Lib.hid L0
    clear L0 HRx hl HOn
    go_wp2_with fail
    (first | (refine bodyPost_ret (results_none rfl _ _ _) rfl ?_) | (refine bodyPost_end (results_none rfl _ _ _) rfl ?_))
    exact ⟨⟨_, rfl⟩, by rw [← L1.out]; exact M.out⟩
set_option maxRecDepth 100000 in
set_option maxHeartbeats 4000000 in
theorem via_recl {P : World → Prop} (hb : Sub w gq T o A Z (R11.cells ⟨kind, line, n, slot, place, now, holds, count, push⟩ t s l b tn)) (h1 : ¬ line = 0) (h2 : kind = 3) (hS : Calls Tryz.prog 64 #[.pointer (some ⟨gq, o, none⟩), .pointer (some ⟨g, 0, none⟩)] w fun e w' => (∃ u, e = .returned u) ∧ P w') :
    Calls Tryz.prog 11 #[.pointer (some ⟨gq, o, none⟩), .pointer (some ⟨g, 0, none⟩)] w fun e w' => (∃ u, e = .returned u) ∧ P w' := by
  have HS := Lib.hid hS
  have c5 : w.cell? ⟨gq, o + 5, none⟩ = some (.int .i64 kind) := hb.cell 5
  have c6 : w.cell? ⟨gq, o + 6, none⟩ = some (.int .i64 line) := hb.cell 6
  have e1 : decide (line = 0) = false := by simp; omega
  subst h2
  clear hS hb
  go_enter Tryz.func11, Tryz.ntmps11
  go_wp2_with fail
  refine HS.out.mono ?_
  rintro e w1 ⟨⟨u, rfl⟩, hp⟩
  have PP := Lib.hid hp
  clear hp c5 c6
  go_wp2_with fail
  (first | (refine bodyPost_ret (results_none rfl _ _ _) rfl ?_) | (refine bodyPost_end (results_none rfl _ _ _) rfl ?_))
  exact ⟨⟨_, rfl⟩, PP.out⟩
set_option maxRecDepth 100000 in
set_option maxHeartbeats 4000000 in
theorem via_last {P : World → Prop} (hb : Sub w gq T o A Z (R11.cells ⟨kind, line, n, slot, place, now, holds, count, push⟩ t s l b tn)) (h1 : kind = 0 ∨ kind = 2) (h2 : line = 3 ∨ line = 4) (hS : Calls Tryz.prog 66 #[.pointer (some ⟨gq, o, none⟩), .pointer (some ⟨g, 0, none⟩)] w fun e w' => (∃ u, e = .returned u) ∧ P w') :
    Calls Tryz.prog 11 #[.pointer (some ⟨gq, o, none⟩), .pointer (some ⟨g, 0, none⟩)] w fun e w' => (∃ u, e = .returned u) ∧ P w' := by
  have HS := Lib.hid hS
  have c5 : w.cell? ⟨gq, o + 5, none⟩ = some (.int .i64 kind) := hb.cell 5
  have c6 : w.cell? ⟨gq, o + 6, none⟩ = some (.int .i64 line) := hb.cell 6
  rcases h1 with rfl | rfl <;> rcases h2 with rfl | rfl
  all_goals
    clear hS hb
    go_enter Tryz.func11, Tryz.ntmps11
    go_wp2_with fail
    refine HS.out.mono ?_
    rintro e w1 ⟨⟨u, rfl⟩, hp⟩
    have PP := Lib.hid hp
    clear hp c5 c6
    go_wp2_with fail
    (first | (refine bodyPost_ret (results_none rfl _ _ _) rfl ?_) | (refine bodyPost_end (results_none rfl _ _ _) rfl ?_))
    exact ⟨⟨_, rfl⟩, PP.out⟩
set_option maxRecDepth 100000 in
set_option maxHeartbeats 4000000 in
theorem via_resv {P : World → Prop} (hb : Sub w gq T o A Z (R11.cells ⟨kind, line, n, slot, place, now, holds, count, push⟩ t s l b tn)) (h1 : kind = 0) (h2 : line = 1 ∨ line = 2) (hS : Calls Tryz.prog 67 #[.pointer (some ⟨gq, o, none⟩), .pointer (some ⟨g, 0, none⟩)] w fun e w' => (∃ u, e = .returned u) ∧ P w') :
    Calls Tryz.prog 11 #[.pointer (some ⟨gq, o, none⟩), .pointer (some ⟨g, 0, none⟩)] w fun e w' => (∃ u, e = .returned u) ∧ P w' := by
  have HS := Lib.hid hS
  have c5 : w.cell? ⟨gq, o + 5, none⟩ = some (.int .i64 kind) := hb.cell 5
  have c6 : w.cell? ⟨gq, o + 6, none⟩ = some (.int .i64 line) := hb.cell 6
  subst h1
  rcases h2 with rfl | rfl
  all_goals
    clear hS hb
    go_enter Tryz.func11, Tryz.ntmps11
    go_wp2_with fail
    refine HS.out.mono ?_
    rintro e w1 ⟨⟨u, rfl⟩, hp⟩
    have PP := Lib.hid hp
    clear hp c5 c6
    go_wp2_with fail
    (first | (refine bodyPost_ret (results_none rfl _ _ _) rfl ?_) | (refine bodyPost_end (results_none rfl _ _ _) rfl ?_))
    exact ⟨⟨_, rfl⟩, PP.out⟩
set_option maxRecDepth 100000 in
set_option maxHeartbeats 8000000 in
theorem mach_cancel (h : IsRMem B w g R rv st) (sd : Sound st.dev) (hc : Calm st) (c : CfgN t s l b) (ok : Okay (layF t s l b)) (ho : ¬ rfoot g R rv gq) (hb : Sub w gq T o A Z (R11.cells ⟨1, 1, n, slot, place, now, holds, count, push⟩ t s l b tn))  :
    Calls Tryz.prog 11 #[.pointer (some ⟨gq, o, none⟩), .pointer (some ⟨g, 0, none⟩)] w (RPostS B w g R rv gq T o A Z (R11.cells ⟨1, 0, n, slot, place, now, holds, count, push⟩ t s l b tn) (st.store tn (logN (layF t s l b) tn n) 0)) := by
  have M0 := Lib.hid (RS.of h hb ho)
  have har := logN_rng ok tn n
  have HLg := Lib.hid (fun W => rlog_ok (t := t) (s := s) (l := l) (b := b) c tn n W)
  have HL : Hid (∀ W, RS B w W g R rv gq T o A Z (R11.cells ⟨1, 1, n, slot, place, now, holds, count, push⟩ t s l b tn) st → Calls Tryz.prog 50 #[.pointer (some ⟨g, 0, none⟩), .int .i64 2, .int .i64 tn, .int .i64 (logN (layF t s l b) tn n), .int .u64 0, .int .u64 0] W fun e w' => (∃ u, e = .returned u) ∧ RS B w w' g R rv gq T o A Z (R11.cells ⟨1, 1, n, slot, place, now, holds, count, push⟩ t s l b tn) (st.store tn (logN (layF t s l b) tn n) 0)) := Lib.hid (fun W m => (refStore7v m.ref sd hc tn _ 0 _ har.1 har.2).mono (by rintro e w' ⟨rfl, r1, f1⟩; exact ⟨⟨_, rfl⟩, m.to r1 f1⟩))
  generalize st.store tn (logN (layF t s l b) tn n) 0 = st1 at *
  generalize logN (layF t s l b) tn n = a at *
  have HP : Hid (∀ W s', RS B w W g R rv gq T o A Z (R11.cells ⟨1, 1, n, slot, place, now, holds, count, push⟩ t s l b tn) s' → (W.cell? ⟨gq, o, none⟩ = some (.int .i64 t) ∧ W.cell? ⟨gq, o + 1, none⟩ = some (.int .i64 s) ∧ W.cell? ⟨gq, o + 2, none⟩ = some (.int .i64 l) ∧ W.cell? ⟨gq, o + 3, none⟩ = some (.int .i64 b)) ∧ W.cell? ⟨gq, o + 4, none⟩ = some (.int .i64 tn) ∧ W.cell? ⟨gq, o + 7, none⟩ = some (.int .i64 n)) := Lib.hid (fun W s' m => ⟨⟨m.blk.cell 0, m.blk.cell 1, m.blk.cell 2, m.blk.cell 3⟩, m.blk.cell 4, m.blk.cell 7⟩)
  have M := Lib.hid (M0.out.ext ((Ext.refl w).drew))
  have c0 : w.cell? ⟨gq, o, none⟩ = some (.int .i64 t) := hb.cell 0
  have c1 : w.cell? ⟨gq, o + 1, none⟩ = some (.int .i64 s) := hb.cell 1
  have c2 : w.cell? ⟨gq, o + 2, none⟩ = some (.int .i64 l) := hb.cell 2
  have c3 : w.cell? ⟨gq, o + 3, none⟩ = some (.int .i64 b) := hb.cell 3
  have c4 : w.cell? ⟨gq, o + 4, none⟩ = some (.int .i64 tn) := hb.cell 4
  have c5 : w.cell? ⟨gq, o + 5, none⟩ = some (.int .i64 1) := hb.cell 5
  have c6 : w.cell? ⟨gq, o + 6, none⟩ = some (.int .i64 1) := hb.cell 6
  have c7 : w.cell? ⟨gq, o + 7, none⟩ = some (.int .i64 n) := hb.cell 7
  clear h hb sd hc har M0
  go_enter Tryz.func11, Tryz.ntmps11
  go_wp2_with fail
  go_region_held3 (fun W => (W.cell? ⟨gq, o, none⟩ = some (.int .i64 t) ∧ W.cell? ⟨gq, o + 1, none⟩ = some (.int .i64 s) ∧ W.cell? ⟨gq, o + 2, none⟩ = some (.int .i64 l) ∧ W.cell? ⟨gq, o + 3, none⟩ = some (.int .i64 b)) ∧ W.cell? ⟨gq, o + 4, none⟩ = some (.int .i64 tn) ∧ W.cell? ⟨gq, o + 7, none⟩ = some (.int .i64 n)) (first | exact HP.out _ _ M.out | go_keep) (first
    | (go_at_call 65; refine (HLg.out _).mono ?_; rintro e w1 ⟨rfl, x1⟩; replace M := Lib.hid (M.out.ext x1); clear x1)
    | (go_at_call 50; refine (HL.out _ M.out).mono ?_; rintro e w1 ⟨⟨u, rfl⟩, m1⟩; replace M := Lib.hid m1; clear m1))
  all_goals
    have y6 : w1.cell? ⟨gq, o + 6, none⟩ = some (.int .i64 1) := M.out.blk.cell 6
    have z6 : w1.frozen? ⟨gq, o + 6, none⟩ = false := M.out.blk.frozen 6
    have M2 : Hid (RS B w (w1.setCell ⟨gq, o + 6, none⟩ (.int .i64 0)) g R rv gq T o A Z (R11.cells ⟨1, 0, n, slot, place, now, holds, count, push⟩ t s l b tn) st1) := Lib.hid (M.out.put11 (.int .i64 0) (by decide))
    go_wp2_with fail
    (first | (refine bodyPost_ret (results_none rfl _ _ _) rfl ?_) | (refine bodyPost_end (results_none rfl _ _ _) rfl ?_))
    exact ⟨⟨_, rfl⟩, M2.out⟩
set_option maxRecDepth 100000 in
set_option maxHeartbeats 8000000 in
theorem mach_st1 (h : IsRMem B w g R rv st) (sd : Sound st.dev) (hc : Calm st) (c : CfgN t s l b) (ok : Okay (layF t s l b)) (ho : ¬ rfoot g R rv gq) (hb : Sub w gq T o A Z (R11.cells ⟨2, 1, n, slot, place, now, holds, count, push⟩ t s l b tn))  :
    Calls Tryz.prog 11 #[.pointer (some ⟨gq, o, none⟩), .pointer (some ⟨g, 0, none⟩)] w (RPostS B w g R rv gq T o A Z (R11.cells ⟨2, 2, n, slot, place, (peekV st (-1)), holds, count, push⟩ t s l b tn) (st.load tn (-1))) := by
  have M0 := Lib.hid (RS.of h hb ho)
  have HL := Lib.hid (refLoad7v h sd hc tn (-1) 0 0 (by decide) (by decide))
  obtain ⟨a1, a2, a3, a4, a5, ha⟩ := load_tells st tn (-1)
  rw [ha] at HL
  have hf3 := fun W => fldA3 a1 a2 a3 (peekV st (-1)) a4 a5 W
  generalize peekV st (-1) = v at *
  generalize st.load tn (-1) = st1 at *
  have c4 : w.cell? ⟨gq, o + 4, none⟩ = some (.int .i64 tn) := hb.cell 4
  have c5 : w.cell? ⟨gq, o + 5, none⟩ = some (.int .i64 2) := hb.cell 5
  have c6 : w.cell? ⟨gq, o + 6, none⟩ = some (.int .i64 1) := hb.cell 6
  clear h hb sd hc ha
  go_enter Tryz.func11, Tryz.ntmps11
  go_wp2_with fail
  refine HL.out.mono ?_
  rintro e w1 ⟨rfl, r1, f1⟩
  have m1 := M0.out.to r1 f1
  have y10 : w1.cell? ⟨gq, o + 10, none⟩ = some (.int .u64 now) := m1.blk.cell 10
  have z10 : w1.frozen? ⟨gq, o + 10, none⟩ = false := m1.blk.frozen 10
  have m2 : RS B w (w1.setCell ⟨gq, o + 10, none⟩ (.int .u64 v)) g R rv gq T o A Z (R11.cells ⟨2, 1, n, slot, place, v, holds, count, push⟩ t s l b tn) st1 := m1.put11 (.int .u64 v) (by decide)
  have y6 : (w1.setCell ⟨gq, o + 10, none⟩ (.int .u64 v)).cell? ⟨gq, o + 6, none⟩ = some (.int .i64 1) := m2.blk.cell 6
  have z6 : (w1.setCell ⟨gq, o + 10, none⟩ (.int .u64 v)).frozen? ⟨gq, o + 6, none⟩ = false := m2.blk.frozen 6
  have M3 : Hid (RS B w ((w1.setCell ⟨gq, o + 10, none⟩ (.int .u64 v)).setCell ⟨gq, o + 6, none⟩ (.int .i64 2)) g R rv gq T o A Z (R11.cells ⟨2, 2, n, slot, place, v, holds, count, push⟩ t s l b tn) st1) := Lib.hid (m2.put11 (.int .i64 2) (by decide))
  clear r1 f1 m1 m2 M0 c4 c6
  go_wp2_with fail
  (first | (refine bodyPost_ret (results_none rfl _ _ _) rfl ?_) | (refine bodyPost_end (results_none rfl _ _ _) rfl ?_))
  exact ⟨⟨_, rfl⟩, M3.out⟩
set_option maxRecDepth 100000 in
set_option maxHeartbeats 8000000 in
theorem mach_st2 (h : IsRMem B w g R rv st) (sd : Sound st.dev) (hc : Calm st) (c : CfgN t s l b) (ok : Okay (layF t s l b)) (ho : ¬ rfoot g R rv gq) (hb : Sub w gq T o A Z (R11.cells ⟨2, 2, n, slot, place, now, holds, count, push⟩ t s l b tn)) (hs : I64 slot) :
    Calls Tryz.prog 11 #[.pointer (some ⟨gq, o, none⟩), .pointer (some ⟨g, 0, none⟩)] w (RPostS B w g R rv gq T o A Z (R11.cells ⟨2, 3, n, slot, place, now, holds, count, push⟩ t s l b tn) (st.store tn (logN (layF t s l b) tn n) (entN slot (IntKind.i64.wrap now)))) := by
  have M0 := Lib.hid (RS.of h hb ho)
  have har := logN_rng ok tn n
  have HLg := Lib.hid (fun W => rlog_ok (t := t) (s := s) (l := l) (b := b) c tn n W)
  have HL : Hid (∀ W, RS B w W g R rv gq T o A Z (R11.cells ⟨2, 2, n, slot, place, now, holds, count, push⟩ t s l b tn) st → Calls Tryz.prog 50 #[.pointer (some ⟨g, 0, none⟩), .int .i64 2, .int .i64 tn, .int .i64 (logN (layF t s l b) tn n), .int .u64 0, .int .u64 (entN slot (IntKind.i64.wrap now))] W fun e w' => (∃ u, e = .returned u) ∧ RS B w w' g R rv gq T o A Z (R11.cells ⟨2, 2, n, slot, place, now, holds, count, push⟩ t s l b tn) (st.store tn (logN (layF t s l b) tn n) (entN slot (IntKind.i64.wrap now)))) := Lib.hid (fun W m => (refStore7v m.ref sd hc tn _ 0 _ har.1 har.2).mono (by rintro e w' ⟨rfl, r1, f1⟩; exact ⟨⟨_, rfl⟩, m.to r1 f1⟩))
  have hwr := i64_wrap_rng now
  have HEn : Hid (∀ W, Calls Tryz.prog 68 #[.int .i64 slot, .int .i64 (IntKind.i64.wrap now)] W fun e w' => e = .returned (.int .u64 (entN slot (IntKind.i64.wrap now))) ∧ Ext W w') := Lib.hid (fun W => rentry_any slot (IntKind.i64.wrap now) hs.1 hs.2 hwr.1 hwr.2 W)
  generalize st.store tn (logN (layF t s l b) tn n) (entN slot (IntKind.i64.wrap now)) = st1 at *
  generalize logN (layF t s l b) tn n = a at *
  have HP : Hid (∀ W s', RS B w W g R rv gq T o A Z (R11.cells ⟨2, 2, n, slot, place, now, holds, count, push⟩ t s l b tn) s' → (W.cell? ⟨gq, o, none⟩ = some (.int .i64 t) ∧ W.cell? ⟨gq, o + 1, none⟩ = some (.int .i64 s) ∧ W.cell? ⟨gq, o + 2, none⟩ = some (.int .i64 l) ∧ W.cell? ⟨gq, o + 3, none⟩ = some (.int .i64 b)) ∧ W.cell? ⟨gq, o + 4, none⟩ = some (.int .i64 tn) ∧ W.cell? ⟨gq, o + 7, none⟩ = some (.int .i64 n) ∧ W.cell? ⟨gq, o + 8, none⟩ = some (.int .i64 slot) ∧ W.cell? ⟨gq, o + 10, none⟩ = some (.int .u64 now)) := Lib.hid (fun W s' m => ⟨⟨m.blk.cell 0, m.blk.cell 1, m.blk.cell 2, m.blk.cell 3⟩, m.blk.cell 4, m.blk.cell 7, m.blk.cell 8, m.blk.cell 10⟩)
  have M := Lib.hid (M0.out.ext ((Ext.refl w).drew))
  have c0 : w.cell? ⟨gq, o, none⟩ = some (.int .i64 t) := hb.cell 0
  have c1 : w.cell? ⟨gq, o + 1, none⟩ = some (.int .i64 s) := hb.cell 1
  have c2 : w.cell? ⟨gq, o + 2, none⟩ = some (.int .i64 l) := hb.cell 2
  have c3 : w.cell? ⟨gq, o + 3, none⟩ = some (.int .i64 b) := hb.cell 3
  have c4 : w.cell? ⟨gq, o + 4, none⟩ = some (.int .i64 tn) := hb.cell 4
  have c5 : w.cell? ⟨gq, o + 5, none⟩ = some (.int .i64 2) := hb.cell 5
  have c6 : w.cell? ⟨gq, o + 6, none⟩ = some (.int .i64 2) := hb.cell 6
  have c7 : w.cell? ⟨gq, o + 7, none⟩ = some (.int .i64 n) := hb.cell 7
  have c8 : w.cell? ⟨gq, o + 8, none⟩ = some (.int .i64 slot) := hb.cell 8
  have c10 : w.cell? ⟨gq, o + 10, none⟩ = some (.int .u64 now) := hb.cell 10
  clear h hb sd hc har M0
  generalize entN slot (IntKind.i64.wrap now) = ew at *
  obtain ⟨nw, hnw⟩ : ∃ nw, IntKind.i64.wrap now = nw := ⟨_, rfl⟩
  rw [hnw] at HEn
  clear hs hwr
  go_enter Tryz.func11, Tryz.ntmps11
  go_wp2_with fail
  go_region_held3 (fun W => (W.cell? ⟨gq, o, none⟩ = some (.int .i64 t) ∧ W.cell? ⟨gq, o + 1, none⟩ = some (.int .i64 s) ∧ W.cell? ⟨gq, o + 2, none⟩ = some (.int .i64 l) ∧ W.cell? ⟨gq, o + 3, none⟩ = some (.int .i64 b)) ∧ W.cell? ⟨gq, o + 4, none⟩ = some (.int .i64 tn) ∧ W.cell? ⟨gq, o + 7, none⟩ = some (.int .i64 n) ∧ W.cell? ⟨gq, o + 8, none⟩ = some (.int .i64 slot) ∧ W.cell? ⟨gq, o + 10, none⟩ = some (.int .u64 now)) (first | exact HP.out _ _ M.out | go_keep) (first
    | (go_at_call 65; refine (HLg.out _).mono ?_; rintro e w1 ⟨rfl, x1⟩; replace M := Lib.hid (M.out.ext x1); clear x1)
    | (go_at_call 68; refine (HEn.out _).mono ?_; rintro e w1 ⟨rfl, x1⟩; replace M := Lib.hid (M.out.ext x1); clear x1)
    | (go_at_call 50; refine (HL.out _ M.out).mono ?_; rintro e w1 ⟨⟨u, rfl⟩, m1⟩; replace M := Lib.hid m1; clear m1))
  all_goals
    have y6 : w1.cell? ⟨gq, o + 6, none⟩ = some (.int .i64 2) := M.out.blk.cell 6
    have z6 : w1.frozen? ⟨gq, o + 6, none⟩ = false := M.out.blk.frozen 6
    have M2 : Hid (RS B w (w1.setCell ⟨gq, o + 6, none⟩ (.int .i64 3)) g R rv gq T o A Z (R11.cells ⟨2, 3, n, slot, place, now, holds, count, push⟩ t s l b tn) st1) := Lib.hid (M.out.put11 (.int .i64 3) (by decide))
    go_wp2_with fail
    (first | (refine bodyPost_ret (results_none rfl _ _ _) rfl ?_) | (refine bodyPost_end (results_none rfl _ _ _) rfl ?_))
    exact ⟨⟨_, rfl⟩, M2.out⟩
set_option maxRecDepth 100000 in
theorem mach_done (h : IsRMem B w g R rv st) (ho : ¬ rfoot g R rv gq) (hb : Sub w gq T o A Z (R11.cells ⟨kind, 0, n, slot, place, now, holds, count, push⟩ t s l b tn)) :
    Calls Tryz.prog 11 #[.pointer (some ⟨gq, o, none⟩), .pointer (some ⟨g, 0, none⟩)] w (RPostS B w g R rv gq T o A Z (R11.cells ⟨kind, 0, n, slot, place, now, holds, count, push⟩ t s l b tn) (st)) := by
  have M0 := Lib.hid (RS.of h hb ho)
  have c6 : w.cell? ⟨gq, o + 6, none⟩ = some (.int .i64 0) := hb.cell 6
  clear h hb
  go_enter Tryz.func11, Tryz.ntmps11
  go_wp2_with fail
  (first | (refine bodyPost_ret (results_none rfl _ _ _) rfl ?_) | (refine bodyPost_end (results_none rfl _ _ _) rfl ?_))
  exact ⟨⟨_, rfl⟩, M0.out⟩
/-- **A STEP OF THE DOCUMENT'S MACHINE OF LAYER 11.** -/
theorem mach11_ok {x : R11} {L i : Nat} (h : IsRMem B w g R rv st) (sd : Sound st.dev) (hc : Calm st) (hi : i ≤ 1000) (fine : Fine i st.dev) (c : CfgN t s l b) (ok : Okay (layF t s l b)) (ho : ¬ rfoot g R rv gq) (hL : L ≤ 500) (hx : x.Wf (L : Int)) (hb : Sub w gq T o A Z (x.cells t s l b tn)) (hU : ∀ a, W64 (peekV st a)) :
    Calls Tryz.prog 11 #[.pointer (some ⟨gq, o, none⟩), .pointer (some ⟨g, 0, none⟩)] w (RPostS B w g R rv gq T o A Z ((r11S (layF t s l b) tn x st).1.cells t s l b tn) (r11S (layF t s l b) tn x st).2) := by
  obtain ⟨kind, line, n, slot, place, now, holds, count, push⟩ := x
  obtain ⟨hk, hl, hk1, hn3, hs, hw, hct, hp⟩ := hx
  simp only at hk hl hk1 hn3 hs hw hct hp
  by_cases l0 : line = 0
  · subst l0
    exact mach_done h ho hb
  have e0 : r11S (layF t s l b) tn ⟨kind, line, n, slot, place, now, holds, count, push⟩ st = if kind = 3 then r11a (layF t s l b) tn ⟨kind, line, n, slot, place, now, holds, count, push⟩ st else if kind = 1 then ((⟨kind, line, n, slot, place, now, holds, count, push⟩ : R11).at 0, st.store tn (logN (layF t s l b) tn n) 0) else r11b (layF t s l b) tn ⟨kind, line, n, slot, place, now, holds, count, push⟩ st := by
    unfold r11S
    rw [if_neg l0]
  rw [e0]
  have hl1 : line = 1 ∨ line = 2 ∨ line = 3 ∨ line = 4 := hl.resolve_left l0
  rcases hk with rfl | rfl | rfl | rfl
  · have n3 := hn3 (Or.inl rfl) l0
    rcases hl1 with rfl | rfl | rfl | rfl
    · exact via_resv hb rfl (Or.inl rfl) (resv_1 h sd hc c ok ho hb ⟨n3.1, by show n < 1000; omega⟩)
    · exact via_resv hb rfl (Or.inr rfl) (resv_2 h sd hc c ok ho hb hs)
    · exact via_last hb (Or.inl rfl) (Or.inl rfl) (last_3 h sd hc c ok ho hb hi fine)
    · exact via_last hb (Or.inl rfl) (Or.inr rfl) (last_4 h sd hc c ok ho hb hi fine)
  · obtain rfl := hk1 rfl l0
    exact mach_cancel h sd hc c ok ho hb
  · rcases hl1 with rfl | rfl | rfl | rfl
    · exact mach_st1 h sd hc c ok ho hb
    · exact mach_st2 h sd hc c ok ho hb hs
    · exact via_last hb (Or.inr rfl) (Or.inl rfl) (last_3 h sd hc c ok ho hb hi fine)
    · exact via_last hb (Or.inr rfl) (Or.inr rfl) (last_4 h sd hc c ok ho hb hi fine)
  · have n3 := hn3 (Or.inr rfl) l0
    rcases hl1 with rfl | rfl | rfl | rfl
    · exact via_recl hb l0 rfl (recl_1 h sd hc c ok ho hb)
    · exact via_recl hb l0 rfl (recl_2 h sd hc c ok ho hb ⟨n3.1, by show n < 1000; omega⟩ hw hU)
    · exact via_recl hb l0 rfl (recl_3 h sd hc c ok ho hb)
    · obtain ⟨p, rfl, hpw⟩ := hp rfl rfl
      have hc2 := hct rfl l0
      exact via_recl hb l0 rfl (recl_4 h sd hc c ok ho hb ⟨n3.1, by show n < 1000; omega⟩ ⟨hc2.1, by show count < 1000; omega⟩ hpw hU)
end
end Go.Proofs.YtbicloceaddinaaGreat

