/- Package retire: the steps of Reserve, Cancel, Stamp. Conditions: those that each theorem names. -/
import Derived.Test.YtfbobdkfibhcnaaGreatRet3
namespace Go.Proofs.YtfbobdkfibhcnaaGreat
open Go.ChangeShapes Go.WideShapes Go.ChangeAt Go.RowKit
set_option linter.unusedVariables false
theorem i64_wrap_rng (x : Int) : -9223372036854775808 ≤ IntKind.i64.wrap x ∧ IntKind.i64.wrap x < 9223372036854775808 := by
  unfold IntKind.wrap
  simp [IntKind.signed, IntKind.bits]
  omega
section
variable {Q : Nat → Prop} {w0 w : World} {gm gp gl : Nat} {dv pv : Value} {s : MSt} {F : Nat → Int} {t slot place part ep : Int} {dn : Bool}
set_option maxRecDepth 100000 in
set_option maxHeartbeats 4000000 in
theorem rvStep_done (h : IsMem Q w w0 w gm dv pv s) (hc : Calm s) (ok : Okay F) (hb : Blk w gp 193 (RvM.cells ⟨place, part, true⟩ gl t slot)) (hl : Blk w gl 223 (cellsF F)) (qp : Q gp) (ql : Q gl) (nlp : gl ≠ gp) (p0 : w0.heap.size ≤ gp) :
    Calls Tryz.prog 46 #[.pointer (some ⟨gp, 0, none⟩), .pointer (some ⟨gm, 0, none⟩)] w (StepPost Q w0 w gm gp 193 dv pv (s) true (RvM.cells ⟨place, part, true⟩ gl t slot)) := by
  have H := Lib.hid h
  have HB := Lib.hid hb
  have c2 : w.cell? ⟨gp, 2, none⟩ = some (.bool true) := hb.cell 2
  clear h hb hl hc ok
  go_enter Tryz.func46, Tryz.ntmps46
  go_wp2_with fail
  refine (doneReserve_ok _ gp true c2).mono ?_
  rintro e w' ⟨rfl, rfl⟩
  go_wp2_with fail
  go_ret
  exact ⟨rfl, H.out, HB.out, fun _ _ _ => rfl⟩
set_option maxRecDepth 100000 in
set_option maxHeartbeats 4000000 in
theorem stStep_done (h : IsMem Q w w0 w gm dv pv s) (hc : Calm s) (ok : Okay F) (hb : Blk w gp 196 (StM.cells ⟨part, ep, true⟩ gl t place slot)) (hl : Blk w gl 223 (cellsF F)) (qp : Q gp) (ql : Q gl) (nlp : gl ≠ gp) (p0 : w0.heap.size ≤ gp) :
    Calls Tryz.prog 49 #[.pointer (some ⟨gp, 0, none⟩), .pointer (some ⟨gm, 0, none⟩)] w (StepPost Q w0 w gm gp 196 dv pv (s) true (StM.cells ⟨part, ep, true⟩ gl t place slot)) := by
  have H := Lib.hid h
  have HB := Lib.hid hb
  have c2 : w.cell? ⟨gp, 2, none⟩ = some (.bool true) := hb.cell 2
  clear h hb hl hc ok
  go_enter Tryz.func49, Tryz.ntmps49
  go_wp2_with fail
  refine (doneStamp_ok _ gp true c2).mono ?_
  rintro e w' ⟨rfl, rfl⟩
  go_wp2_with fail
  go_ret
  exact ⟨rfl, H.out, HB.out, fun _ _ _ => rfl⟩
set_option maxRecDepth 100000 in
set_option maxHeartbeats 4000000 in
theorem cnStep_done (h : IsMem Q w w0 w gm dv pv s) (hc : Calm s) (ok : Okay F) (hb : Blk w gp 207 (cnCells gl t place true)) (hl : Blk w gl 223 (cellsF F)) (qp : Q gp) (ql : Q gl) (nlp : gl ≠ gp) (p0 : w0.heap.size ≤ gp) :
    Calls Tryz.prog 61 #[.pointer (some ⟨gp, 0, none⟩), .pointer (some ⟨gm, 0, none⟩)] w (StepPost Q w0 w gm gp 207 dv pv (s) true (cnCells gl t place true)) := by
  have H := Lib.hid h
  have HB := Lib.hid hb
  have c2 : w.cell? ⟨gp, 2, none⟩ = some (.bool true) := hb.cell 2
  clear h hb hl hc ok
  go_enter Tryz.func61, Tryz.ntmps61
  go_wp2_with fail
  refine (doneCancel_ok _ gp true c2).mono ?_
  rintro e w' ⟨rfl, rfl⟩
  go_wp2_with fail
  go_ret
  exact ⟨rfl, H.out, HB.out, fun _ _ _ => rfl⟩
set_option maxRecDepth 100000 in
set_option maxHeartbeats 4000000 in
theorem rvStep_1 (h : IsMem Q w w0 w gm dv pv s) (hc : Calm s) (ok : Okay F) (hs : I64 slot) (hb : Blk w gp 193 (RvM.cells ⟨place, 1, false⟩ gl t slot)) (hl : Blk w gl 223 (cellsF F)) (qp : Q gp) (ql : Q gl) (nlp : gl ≠ gp) (p0 : w0.heap.size ≤ gp) :
    Calls Tryz.prog 46 #[.pointer (some ⟨gp, 0, none⟩), .pointer (some ⟨gm, 0, none⟩)] w (StepPost Q w0 w gm gp 193 dv pv (s.store t (logN F t place) (entN slot (-1))) false (RvM.cells ⟨place, 2, false⟩ gl t slot)) := by
  have HPu : Hid (∀ W, Ext w W → Calls Tryz.prog 133 #[.pointer (some ⟨gp, 0, none⟩), .pointer (some ⟨gm, 0, none⟩), .int .u64 (entN slot (-1))] W fun e w' => (∃ u, e = .returned u) ∧ IsMem Q w' w0 w' gm dv pv (s.store t (logN F t place) (entN slot (-1))) ∧ Blk w' gp 193 (RvM.cells ⟨place, 2, false⟩ gl t slot) ∧ (∀ b, Q b → b ≠ gp → w'.heap[b]? = w.heap[b]?)) := Lib.hid (fun W x => (put_1 ((h.ext x).here) hc ok (entN slot (-1)) (entN_rng _ _) (hb.ext x) (hl.ext x) qp ql p0).mono (by rintro e w' ⟨hu, m, b, kk⟩; exact ⟨hu, m, b, fun q hq hn => (kk q hq hn).trans (x.block q (h.lt.2 q hq))⟩))
  have HEn : Hid (∀ W, Calls Tryz.prog 134 #[.int .i64 slot, .int .i64 (-1)] W fun e w' => e = .returned (.int .u64 (entN slot (-1))) ∧ Ext W w') := Lib.hid (fun W => entry_any slot (-1) hs.1 hs.2 (show -9223372036854775808 ≤ (-1 : Int) ∧ (-1 : Int) < 9223372036854775808 from ⟨by decide, by decide⟩).1 (show -9223372036854775808 ≤ (-1 : Int) ∧ (-1 : Int) < 9223372036854775808 from ⟨by decide, by decide⟩).2 W)
  have HP : Hid (∀ W, Ext w W → W.cell? ⟨gp, 5, none⟩ = some (.int .i64 slot)) := Lib.hid (fun W x => (hb.ext x).cell 5)
  have c2 : w.cell? ⟨gp, 2, none⟩ = some (.bool false) := hb.cell 2
  have c4 : w.cell? ⟨gp, 4, none⟩ = some (.int .i64 1) := hb.cell 4
  have M := Lib.hid ((Ext.refl w).drew)
  clear h hb hl hc ok 
  generalize s.store t (logN F t place) (entN slot (-1)) = s1 at *
  generalize entN slot (-1) = wd at *
  go_enter Tryz.func46, Tryz.ntmps46
  go_wp2_with fail
  refine (doneReserve_ok _ gp false c2).mono ?_
  rintro e w' ⟨rfl, rfl⟩
  go_wp2_with fail
  go_region_held3 (fun W => W.cell? ⟨gp, 5, none⟩ = some (.int .i64 slot)) (first | exact hS1 | exact HP.out _ M.out | go_keep) (first
    | (go_at_call 134; refine (HEn.out _).mono ?_; rintro e w1 ⟨rfl, x1⟩; replace M := Lib.hid (M.out.trans x1); clear x1)
    | (go_at_call 133; refine (HPu.out _ M.out).mono ?_; rintro e w1 ⟨⟨u, rfl⟩, m1, b1, k1⟩; have hS1 : w1.cell? ⟨gp, 5, none⟩ = some (.int .i64 slot) := b1.cell 5; have d2 : w1.cell? ⟨gp, 2, none⟩ = some (.bool false) := b1.cell 2; have M1 := Lib.hid m1; have B1 := Lib.hid b1; have K1 := Lib.hid k1; clear m1 b1 k1))
  all_goals
    clear hS1
    go_wp2_with fail
    go_ret
    exact ⟨rfl, M1.out, B1.out, K1.out⟩
set_option maxRecDepth 100000 in
set_option maxHeartbeats 4000000 in
theorem rvStep_2 (h : IsMem Q w w0 w gm dv pv s) (hc : Calm s) (ok : Okay F) (hs : I64 slot) {i : Nat} (hi : i ≤ 1000) (fine : Fine i s.dev) (hb : Blk w gp 193 (RvM.cells ⟨place, 2, false⟩ gl t slot)) (hl : Blk w gl 223 (cellsF F)) (qp : Q gp) (ql : Q gl) (nlp : gl ≠ gp) (p0 : w0.heap.size ≤ gp) :
    Calls Tryz.prog 46 #[.pointer (some ⟨gp, 0, none⟩), .pointer (some ⟨gm, 0, none⟩)] w (StepPost Q w0 w gm gp 193 dv pv (s.flush t (logN F t place)) false (RvM.cells ⟨place, 3, false⟩ gl t slot)) := by
  have HPu : Hid (∀ W, Ext w W → Calls Tryz.prog 133 #[.pointer (some ⟨gp, 0, none⟩), .pointer (some ⟨gm, 0, none⟩), .int .u64 (entN slot (-1))] W fun e w' => (∃ u, e = .returned u) ∧ IsMem Q w' w0 w' gm dv pv (s.flush t (logN F t place)) ∧ Blk w' gp 193 (RvM.cells ⟨place, 3, false⟩ gl t slot) ∧ (∀ b, Q b → b ≠ gp → w'.heap[b]? = w.heap[b]?)) := Lib.hid (fun W x => (put_2 ((h.ext x).here) hc ok (i := i) hi fine (entN slot (-1)) (entN_rng _ _) (hb.ext x) (hl.ext x) qp ql p0).mono (by rintro e w' ⟨hu, m, b, kk⟩; exact ⟨hu, m, b, fun q hq hn => (kk q hq hn).trans (x.block q (h.lt.2 q hq))⟩))
  have HEn : Hid (∀ W, Calls Tryz.prog 134 #[.int .i64 slot, .int .i64 (-1)] W fun e w' => e = .returned (.int .u64 (entN slot (-1))) ∧ Ext W w') := Lib.hid (fun W => entry_any slot (-1) hs.1 hs.2 (show -9223372036854775808 ≤ (-1 : Int) ∧ (-1 : Int) < 9223372036854775808 from ⟨by decide, by decide⟩).1 (show -9223372036854775808 ≤ (-1 : Int) ∧ (-1 : Int) < 9223372036854775808 from ⟨by decide, by decide⟩).2 W)
  have HP : Hid (∀ W, Ext w W → W.cell? ⟨gp, 5, none⟩ = some (.int .i64 slot)) := Lib.hid (fun W x => (hb.ext x).cell 5)
  have c2 : w.cell? ⟨gp, 2, none⟩ = some (.bool false) := hb.cell 2
  have c4 : w.cell? ⟨gp, 4, none⟩ = some (.int .i64 2) := hb.cell 4
  have M := Lib.hid ((Ext.refl w).drew)
  clear h hb hl hc ok fine
  generalize s.flush t (logN F t place) = s1 at *
  generalize entN slot (-1) = wd at *
  go_enter Tryz.func46, Tryz.ntmps46
  go_wp2_with fail
  refine (doneReserve_ok _ gp false c2).mono ?_
  rintro e w' ⟨rfl, rfl⟩
  go_wp2_with fail
  go_region_held3 (fun W => W.cell? ⟨gp, 5, none⟩ = some (.int .i64 slot)) (first | exact hS1 | exact HP.out _ M.out | go_keep) (first
    | (go_at_call 134; refine (HEn.out _).mono ?_; rintro e w1 ⟨rfl, x1⟩; replace M := Lib.hid (M.out.trans x1); clear x1)
    | (go_at_call 133; refine (HPu.out _ M.out).mono ?_; rintro e w1 ⟨⟨u, rfl⟩, m1, b1, k1⟩; have hS1 : w1.cell? ⟨gp, 5, none⟩ = some (.int .i64 slot) := b1.cell 5; have d2 : w1.cell? ⟨gp, 2, none⟩ = some (.bool false) := b1.cell 2; have M1 := Lib.hid m1; have B1 := Lib.hid b1; have K1 := Lib.hid k1; clear m1 b1 k1))
  all_goals
    clear hS1
    go_wp2_with fail
    go_ret
    exact ⟨rfl, M1.out, B1.out, K1.out⟩
set_option maxRecDepth 100000 in
set_option maxHeartbeats 4000000 in
theorem rvStep_3 (h : IsMem Q w w0 w gm dv pv s) (hc : Calm s) (ok : Okay F) (hs : I64 slot) {i : Nat} (hi : i ≤ 1000) (fine : Fine i s.dev) (hb : Blk w gp 193 (RvM.cells ⟨place, 3, false⟩ gl t slot)) (hl : Blk w gl 223 (cellsF F)) (qp : Q gp) (ql : Q gl) (nlp : gl ≠ gp) (p0 : w0.heap.size ≤ gp) :
    Calls Tryz.prog 46 #[.pointer (some ⟨gp, 0, none⟩), .pointer (some ⟨gm, 0, none⟩)] w (StepPost Q w0 w gm gp 193 dv pv (s.fence t) true (RvM.cells ⟨place, 4, true⟩ gl t slot)) := by
  have HPu : Hid (∀ W, Ext w W → Calls Tryz.prog 133 #[.pointer (some ⟨gp, 0, none⟩), .pointer (some ⟨gm, 0, none⟩), .int .u64 (entN slot (-1))] W fun e w' => (∃ u, e = .returned u) ∧ IsMem Q w' w0 w' gm dv pv (s.fence t) ∧ Blk w' gp 193 (RvM.cells ⟨place, 4, true⟩ gl t slot) ∧ (∀ b, Q b → b ≠ gp → w'.heap[b]? = w.heap[b]?)) := Lib.hid (fun W x => (put_3 ((h.ext x).here) hc ok (i := i) hi fine (entN slot (-1)) (entN_rng _ _) (hb.ext x) (hl.ext x) qp ql p0).mono (by rintro e w' ⟨hu, m, b, kk⟩; exact ⟨hu, m, b, fun q hq hn => (kk q hq hn).trans (x.block q (h.lt.2 q hq))⟩))
  have HEn : Hid (∀ W, Calls Tryz.prog 134 #[.int .i64 slot, .int .i64 (-1)] W fun e w' => e = .returned (.int .u64 (entN slot (-1))) ∧ Ext W w') := Lib.hid (fun W => entry_any slot (-1) hs.1 hs.2 (show -9223372036854775808 ≤ (-1 : Int) ∧ (-1 : Int) < 9223372036854775808 from ⟨by decide, by decide⟩).1 (show -9223372036854775808 ≤ (-1 : Int) ∧ (-1 : Int) < 9223372036854775808 from ⟨by decide, by decide⟩).2 W)
  have HP : Hid (∀ W, Ext w W → W.cell? ⟨gp, 5, none⟩ = some (.int .i64 slot)) := Lib.hid (fun W x => (hb.ext x).cell 5)
  have c2 : w.cell? ⟨gp, 2, none⟩ = some (.bool false) := hb.cell 2
  have c4 : w.cell? ⟨gp, 4, none⟩ = some (.int .i64 3) := hb.cell 4
  have M := Lib.hid ((Ext.refl w).drew)
  clear h hb hl hc ok fine
  generalize s.fence t = s1 at *
  generalize entN slot (-1) = wd at *
  go_enter Tryz.func46, Tryz.ntmps46
  go_wp2_with fail
  refine (doneReserve_ok _ gp false c2).mono ?_
  rintro e w' ⟨rfl, rfl⟩
  go_wp2_with fail
  go_region_held3 (fun W => W.cell? ⟨gp, 5, none⟩ = some (.int .i64 slot)) (first | exact hS1 | exact HP.out _ M.out | go_keep) (first
    | (go_at_call 134; refine (HEn.out _).mono ?_; rintro e w1 ⟨rfl, x1⟩; replace M := Lib.hid (M.out.trans x1); clear x1)
    | (go_at_call 133; refine (HPu.out _ M.out).mono ?_; rintro e w1 ⟨⟨u, rfl⟩, m1, b1, k1⟩; have hS1 : w1.cell? ⟨gp, 5, none⟩ = some (.int .i64 slot) := b1.cell 5; have d2 : w1.cell? ⟨gp, 2, none⟩ = some (.bool true) := b1.cell 2; have M1 := Lib.hid m1; have B1 := Lib.hid b1; have K1 := Lib.hid k1; clear m1 b1 k1))
  all_goals
    clear hS1
    go_wp2_with fail
    go_ret
    exact ⟨rfl, M1.out, B1.out, K1.out⟩
set_option maxRecDepth 100000 in
set_option maxHeartbeats 4000000 in
theorem stStep_1 (h : IsMem Q w w0 w gm dv pv s) (hc : Calm s) (ok : Okay F) (hs : I64 slot) {epi : Int} (hepi : IntKind.i64.wrap ep = epi) (hb : Blk w gp 196 (StM.cells ⟨1, ep, false⟩ gl t place slot)) (hl : Blk w gl 223 (cellsF F)) (qp : Q gp) (ql : Q gl) (nlp : gl ≠ gp) (p0 : w0.heap.size ≤ gp) :
    Calls Tryz.prog 49 #[.pointer (some ⟨gp, 0, none⟩), .pointer (some ⟨gm, 0, none⟩)] w (StepPost Q w0 w gm gp 196 dv pv (s.store t (logN F t place) (entN slot epi)) false (StM.cells ⟨2, ep, false⟩ gl t place slot)) := by
  have he : -9223372036854775808 ≤ epi ∧ epi < 9223372036854775808 := by rw [← hepi]; exact i64_wrap_rng ep
  have HPu : Hid (∀ W, Ext w W → Calls Tryz.prog 133 #[.pointer (some ⟨gp, 0, none⟩), .pointer (some ⟨gm, 0, none⟩), .int .u64 (entN slot epi)] W fun e w' => (∃ u, e = .returned u) ∧ IsMem Q w' w0 w' gm dv pv (s.store t (logN F t place) (entN slot epi)) ∧ Blk w' gp 196 (StM.cells ⟨2, ep, false⟩ gl t place slot) ∧ (∀ b, Q b → b ≠ gp → w'.heap[b]? = w.heap[b]?)) := Lib.hid (fun W x => (put_1 ((h.ext x).here) hc ok (entN slot epi) (entN_rng _ _) (hb.ext x) (hl.ext x) qp ql p0).mono (by rintro e w' ⟨hu, m, b, kk⟩; exact ⟨hu, m, b, fun q hq hn => (kk q hq hn).trans (x.block q (h.lt.2 q hq))⟩))
  have HEn : Hid (∀ W, Calls Tryz.prog 134 #[.int .i64 slot, .int .i64 epi] W fun e w' => e = .returned (.int .u64 (entN slot epi)) ∧ Ext W w') := Lib.hid (fun W => entry_any slot epi hs.1 hs.2 he.1 he.2 W)
  have HP : Hid (∀ W, Ext w W → W.cell? ⟨gp, 5, none⟩ = some (.int .i64 slot) ∧ W.cell? ⟨gp, 6, none⟩ = some (.int .u64 ep)) := Lib.hid (fun W x => ⟨(hb.ext x).cell 5, (hb.ext x).cell 6⟩)
  have c2 : w.cell? ⟨gp, 2, none⟩ = some (.bool false) := hb.cell 2
  have c4 : w.cell? ⟨gp, 4, none⟩ = some (.int .i64 1) := hb.cell 4
  have M := Lib.hid ((Ext.refl w).drew)
  clear h hb hl hc ok 
  generalize s.store t (logN F t place) (entN slot epi) = s1 at *
  generalize entN slot epi = wd at *
  go_enter Tryz.func49, Tryz.ntmps49
  go_wp2_with fail
  refine (doneStamp_ok _ gp false c2).mono ?_
  rintro e w' ⟨rfl, rfl⟩
  go_wp2_with fail
  go_region_held3 (fun W => W.cell? ⟨gp, 5, none⟩ = some (.int .i64 slot) ∧ W.cell? ⟨gp, 6, none⟩ = some (.int .u64 ep)) (first | exact hS1 | exact HP.out _ M.out | go_keep) (first
    | (go_at_call 134; refine (HEn.out _).mono ?_; rintro e w1 ⟨rfl, x1⟩; replace M := Lib.hid (M.out.trans x1); clear x1)
    | (go_at_call 133; refine (HPu.out _ M.out).mono ?_; rintro e w1 ⟨⟨u, rfl⟩, m1, b1, k1⟩; have hS1 : w1.cell? ⟨gp, 5, none⟩ = some (.int .i64 slot) ∧ w1.cell? ⟨gp, 6, none⟩ = some (.int .u64 ep) := ⟨b1.cell 5, b1.cell 6⟩; have d2 : w1.cell? ⟨gp, 2, none⟩ = some (.bool false) := b1.cell 2; have M1 := Lib.hid m1; have B1 := Lib.hid b1; have K1 := Lib.hid k1; clear m1 b1 k1))
  all_goals
    clear hS1
    go_wp2_with fail
    go_ret
    exact ⟨rfl, M1.out, B1.out, K1.out⟩
set_option maxRecDepth 100000 in
set_option maxHeartbeats 4000000 in
theorem stStep_2 (h : IsMem Q w w0 w gm dv pv s) (hc : Calm s) (ok : Okay F) (hs : I64 slot) {epi : Int} (hepi : IntKind.i64.wrap ep = epi) {i : Nat} (hi : i ≤ 1000) (fine : Fine i s.dev) (hb : Blk w gp 196 (StM.cells ⟨2, ep, false⟩ gl t place slot)) (hl : Blk w gl 223 (cellsF F)) (qp : Q gp) (ql : Q gl) (nlp : gl ≠ gp) (p0 : w0.heap.size ≤ gp) :
    Calls Tryz.prog 49 #[.pointer (some ⟨gp, 0, none⟩), .pointer (some ⟨gm, 0, none⟩)] w (StepPost Q w0 w gm gp 196 dv pv (s.flush t (logN F t place)) false (StM.cells ⟨3, ep, false⟩ gl t place slot)) := by
  have he : -9223372036854775808 ≤ epi ∧ epi < 9223372036854775808 := by rw [← hepi]; exact i64_wrap_rng ep
  have HPu : Hid (∀ W, Ext w W → Calls Tryz.prog 133 #[.pointer (some ⟨gp, 0, none⟩), .pointer (some ⟨gm, 0, none⟩), .int .u64 (entN slot epi)] W fun e w' => (∃ u, e = .returned u) ∧ IsMem Q w' w0 w' gm dv pv (s.flush t (logN F t place)) ∧ Blk w' gp 196 (StM.cells ⟨3, ep, false⟩ gl t place slot) ∧ (∀ b, Q b → b ≠ gp → w'.heap[b]? = w.heap[b]?)) := Lib.hid (fun W x => (put_2 ((h.ext x).here) hc ok (i := i) hi fine (entN slot epi) (entN_rng _ _) (hb.ext x) (hl.ext x) qp ql p0).mono (by rintro e w' ⟨hu, m, b, kk⟩; exact ⟨hu, m, b, fun q hq hn => (kk q hq hn).trans (x.block q (h.lt.2 q hq))⟩))
  have HEn : Hid (∀ W, Calls Tryz.prog 134 #[.int .i64 slot, .int .i64 epi] W fun e w' => e = .returned (.int .u64 (entN slot epi)) ∧ Ext W w') := Lib.hid (fun W => entry_any slot epi hs.1 hs.2 he.1 he.2 W)
  have HP : Hid (∀ W, Ext w W → W.cell? ⟨gp, 5, none⟩ = some (.int .i64 slot) ∧ W.cell? ⟨gp, 6, none⟩ = some (.int .u64 ep)) := Lib.hid (fun W x => ⟨(hb.ext x).cell 5, (hb.ext x).cell 6⟩)
  have c2 : w.cell? ⟨gp, 2, none⟩ = some (.bool false) := hb.cell 2
  have c4 : w.cell? ⟨gp, 4, none⟩ = some (.int .i64 2) := hb.cell 4
  have M := Lib.hid ((Ext.refl w).drew)
  clear h hb hl hc ok fine
  generalize s.flush t (logN F t place) = s1 at *
  generalize entN slot epi = wd at *
  go_enter Tryz.func49, Tryz.ntmps49
  go_wp2_with fail
  refine (doneStamp_ok _ gp false c2).mono ?_
  rintro e w' ⟨rfl, rfl⟩
  go_wp2_with fail
  go_region_held3 (fun W => W.cell? ⟨gp, 5, none⟩ = some (.int .i64 slot) ∧ W.cell? ⟨gp, 6, none⟩ = some (.int .u64 ep)) (first | exact hS1 | exact HP.out _ M.out | go_keep) (first
    | (go_at_call 134; refine (HEn.out _).mono ?_; rintro e w1 ⟨rfl, x1⟩; replace M := Lib.hid (M.out.trans x1); clear x1)
    | (go_at_call 133; refine (HPu.out _ M.out).mono ?_; rintro e w1 ⟨⟨u, rfl⟩, m1, b1, k1⟩; have hS1 : w1.cell? ⟨gp, 5, none⟩ = some (.int .i64 slot) ∧ w1.cell? ⟨gp, 6, none⟩ = some (.int .u64 ep) := ⟨b1.cell 5, b1.cell 6⟩; have d2 : w1.cell? ⟨gp, 2, none⟩ = some (.bool false) := b1.cell 2; have M1 := Lib.hid m1; have B1 := Lib.hid b1; have K1 := Lib.hid k1; clear m1 b1 k1))
  all_goals
    clear hS1
    go_wp2_with fail
    go_ret
    exact ⟨rfl, M1.out, B1.out, K1.out⟩
set_option maxRecDepth 100000 in
set_option maxHeartbeats 4000000 in
theorem stStep_3 (h : IsMem Q w w0 w gm dv pv s) (hc : Calm s) (ok : Okay F) (hs : I64 slot) {epi : Int} (hepi : IntKind.i64.wrap ep = epi) {i : Nat} (hi : i ≤ 1000) (fine : Fine i s.dev) (hb : Blk w gp 196 (StM.cells ⟨3, ep, false⟩ gl t place slot)) (hl : Blk w gl 223 (cellsF F)) (qp : Q gp) (ql : Q gl) (nlp : gl ≠ gp) (p0 : w0.heap.size ≤ gp) :
    Calls Tryz.prog 49 #[.pointer (some ⟨gp, 0, none⟩), .pointer (some ⟨gm, 0, none⟩)] w (StepPost Q w0 w gm gp 196 dv pv (s.fence t) true (StM.cells ⟨4, ep, true⟩ gl t place slot)) := by
  have he : -9223372036854775808 ≤ epi ∧ epi < 9223372036854775808 := by rw [← hepi]; exact i64_wrap_rng ep
  have HPu : Hid (∀ W, Ext w W → Calls Tryz.prog 133 #[.pointer (some ⟨gp, 0, none⟩), .pointer (some ⟨gm, 0, none⟩), .int .u64 (entN slot epi)] W fun e w' => (∃ u, e = .returned u) ∧ IsMem Q w' w0 w' gm dv pv (s.fence t) ∧ Blk w' gp 196 (StM.cells ⟨4, ep, true⟩ gl t place slot) ∧ (∀ b, Q b → b ≠ gp → w'.heap[b]? = w.heap[b]?)) := Lib.hid (fun W x => (put_3 ((h.ext x).here) hc ok (i := i) hi fine (entN slot epi) (entN_rng _ _) (hb.ext x) (hl.ext x) qp ql p0).mono (by rintro e w' ⟨hu, m, b, kk⟩; exact ⟨hu, m, b, fun q hq hn => (kk q hq hn).trans (x.block q (h.lt.2 q hq))⟩))
  have HEn : Hid (∀ W, Calls Tryz.prog 134 #[.int .i64 slot, .int .i64 epi] W fun e w' => e = .returned (.int .u64 (entN slot epi)) ∧ Ext W w') := Lib.hid (fun W => entry_any slot epi hs.1 hs.2 he.1 he.2 W)
  have HP : Hid (∀ W, Ext w W → W.cell? ⟨gp, 5, none⟩ = some (.int .i64 slot) ∧ W.cell? ⟨gp, 6, none⟩ = some (.int .u64 ep)) := Lib.hid (fun W x => ⟨(hb.ext x).cell 5, (hb.ext x).cell 6⟩)
  have c2 : w.cell? ⟨gp, 2, none⟩ = some (.bool false) := hb.cell 2
  have c4 : w.cell? ⟨gp, 4, none⟩ = some (.int .i64 3) := hb.cell 4
  have M := Lib.hid ((Ext.refl w).drew)
  clear h hb hl hc ok fine
  generalize s.fence t = s1 at *
  generalize entN slot epi = wd at *
  go_enter Tryz.func49, Tryz.ntmps49
  go_wp2_with fail
  refine (doneStamp_ok _ gp false c2).mono ?_
  rintro e w' ⟨rfl, rfl⟩
  go_wp2_with fail
  go_region_held3 (fun W => W.cell? ⟨gp, 5, none⟩ = some (.int .i64 slot) ∧ W.cell? ⟨gp, 6, none⟩ = some (.int .u64 ep)) (first | exact hS1 | exact HP.out _ M.out | go_keep) (first
    | (go_at_call 134; refine (HEn.out _).mono ?_; rintro e w1 ⟨rfl, x1⟩; replace M := Lib.hid (M.out.trans x1); clear x1)
    | (go_at_call 133; refine (HPu.out _ M.out).mono ?_; rintro e w1 ⟨⟨u, rfl⟩, m1, b1, k1⟩; have hS1 : w1.cell? ⟨gp, 5, none⟩ = some (.int .i64 slot) ∧ w1.cell? ⟨gp, 6, none⟩ = some (.int .u64 ep) := ⟨b1.cell 5, b1.cell 6⟩; have d2 : w1.cell? ⟨gp, 2, none⟩ = some (.bool true) := b1.cell 2; have M1 := Lib.hid m1; have B1 := Lib.hid b1; have K1 := Lib.hid k1; clear m1 b1 k1))
  all_goals
    clear hS1
    go_wp2_with fail
    go_ret
    exact ⟨rfl, M1.out, B1.out, K1.out⟩
set_option maxRecDepth 100000 in
set_option maxHeartbeats 4000000 in
theorem rvStep_0 (h : IsMem Q w w0 w gm dv pv s) (hc : Calm s) (ok : Okay F) (k m : Nat) (hk : k ≤ 500) (hm : m ≤ 500) (hm0 : 0 < m) (hL : F 2 = (k : Int) + (m : Int)) (hb : Blk w gp 193 (RvM.cells ⟨(k : Int), 0, false⟩ gl t slot)) (hl : Blk w gl 223 (cellsF F)) (qp : Q gp) (ql : Q gl) (nlp : gl ≠ gp) (p0 : w0.heap.size ≤ gp) :
    Calls Tryz.prog 46 #[.pointer (some ⟨gp, 0, none⟩), .pointer (some ⟨gm, 0, none⟩)] w (StepPost Q w0 w gm gp 193 dv pv (s.load t (logN F t k)) (if peekV s (logN F t k) = 0 then (⟨(k : Int), 1, false⟩ : RvM) else ⟨(k : Int) + 1, 0, decide (F 2 ≤ (k : Int) + 1)⟩).dn (RvM.cells (if peekV s (logN F t k) = 0 then ⟨(k : Int), 1, false⟩ else ⟨(k : Int) + 1, 0, decide (F 2 ≤ (k : Int) + 1)⟩) gl t slot)) := by
  have HL := Lib.hid (rlook_ok (slot := slot) h hc ok k m hk hm hm0 hL hb hl qp ql nlp p0)
  have c2 : w.cell? ⟨gp, 2, none⟩ = some (.bool false) := hb.cell 2
  have c4 : w.cell? ⟨gp, 4, none⟩ = some (.int .i64 0) := hb.cell 4
  generalize s.load t (logN F t k) = s1 at *
  generalize (if peekV s (logN F t k) = 0 then (⟨(k : Int), 1, false⟩ : RvM) else ⟨(k : Int) + 1, 0, decide (F 2 ≤ (k : Int) + 1)⟩) = x1 at *
  obtain ⟨p1, q1, d1⟩ := x1
  clear h hb hl hc ok hL
  go_enter Tryz.func46, Tryz.ntmps46
  go_wp2_with fail
  refine (doneReserve_ok _ gp false c2).mono ?_
  rintro e w' ⟨rfl, rfl⟩
  go_wp2_with fail
  refine HL.out.mono ?_
  rintro e w1 ⟨⟨u, rfl⟩, m1, b1, k1⟩
  have d2 : w1.cell? ⟨gp, 2, none⟩ = some (.bool d1) := b1.cell 2
  have M1 := Lib.hid m1
  have B1 := Lib.hid b1
  have K1 := Lib.hid k1
  clear m1 b1 k1
  go_wp2_with fail
  go_ret
  exact ⟨rfl, M1.out, B1.out, K1.out⟩
set_option maxRecDepth 100000 in
set_option maxHeartbeats 4000000 in
theorem stStep_0 (h : IsMem Q w w0 w gm dv pv s) (hc : Calm s) (ok : Okay F) (hF : F 21 = -1) (hb : Blk w gp 196 (StM.cells ⟨0, ep, false⟩ gl t place slot)) (hl : Blk w gl 223 (cellsF F)) (qp : Q gp) (ql : Q gl) (nlp : gl ≠ gp) (p0 : w0.heap.size ≤ gp) :
    Calls Tryz.prog 49 #[.pointer (some ⟨gp, 0, none⟩), .pointer (some ⟨gm, 0, none⟩)] w (StepPost Q w0 w gm gp 196 dv pv (s.load t (-1)) false (StM.cells ⟨1, peekV s (-1), false⟩ gl t place slot)) := by
  have HK : Hid (∀ W s', IsMem Q w w0 W gm dv pv s' → Blk W gp 196 (StM.cells ⟨0, ep, false⟩ gl t place slot) ∧ Blk W gl 223 (cellsF F)) := Lib.hid (fun W s' m => ⟨(m.keptQ gp qp).trans hb, (m.keptQ gl ql).trans hl⟩)
  have HP : Hid (∀ W s', IsMem Q w w0 W gm dv pv s' → W.cell? ⟨gp, 0, none⟩ = some (.pointer (some ⟨gl, 0, none⟩)) ∧ W.cell? ⟨gp, 1, none⟩ = some (.int .i64 t)) := Lib.hid (fun W s' m => ⟨((HK.out W s' m).1).cell 0, ((HK.out W s' m).1).cell 1⟩)
  have HP2 : Hid (∀ W s' u, IsMem Q w w0 W gm dv pv s' → (W.setCell ⟨gp, 6, none⟩ u).cell? ⟨gp, 0, none⟩ = some (.pointer (some ⟨gl, 0, none⟩)) ∧ (W.setCell ⟨gp, 6, none⟩ u).cell? ⟨gp, 1, none⟩ = some (.int .i64 t)) := Lib.hid (fun W s' u m => ⟨(((HK.out W s' m).1).set 6 u).cell 0, (((HK.out W s' m).1).set 6 u).cell 1⟩)
  have HEp : Hid (∀ W s', IsMem Q w w0 W gm dv pv s' → Calls Tryz.prog 136 #[.pointer (some ⟨gl, 0, none⟩)] W fun e w' => e = .returned (.int .i64 (-1)) ∧ Ext W w') := Lib.hid (fun W s' m => tEpoch_m1 gl W (HK.out W s' m).2 hF)
  have HL : Hid (∀ W, IsMem Q w w0 W gm dv pv s → Calls Tryz.prog 97 #[.pointer (some ⟨gm, 0, none⟩), .int .i64 t, .int .i64 (-1)] W fun e w' => e = .returned (.int .u64 (peekV s (-1))) ∧ IsMem Q w w0 w' gm dv pv (s.load t (-1))) := Lib.hid (fun W m => memLoad_ok m t (-1) (by decide) (by decide) hc)
  have M := Lib.hid (h.ext ((Ext.refl w).drew))
  generalize peekV s (-1) = v at *
  generalize s.load t (-1) = s1 at *
  have c2 : w.cell? ⟨gp, 2, none⟩ = some (.bool false) := hb.cell 2
  have c4 : w.cell? ⟨gp, 4, none⟩ = some (.int .i64 0) := hb.cell 4
  have c0 : w.cell? ⟨gp, 0, none⟩ = some (.pointer (some ⟨gl, 0, none⟩)) := hb.cell 0
  clear h hb hl hF hc ok
  go_enter Tryz.func49, Tryz.ntmps49
  go_wp2_with fail
  refine (doneStamp_ok _ gp false c2).mono ?_
  rintro e w' ⟨rfl, rfl⟩
  go_wp2_with fail
  go_region_held3 (fun W => W.cell? ⟨gp, 0, none⟩ = some (.pointer (some ⟨gl, 0, none⟩)) ∧ W.cell? ⟨gp, 1, none⟩ = some (.int .i64 t)) (first | exact HP.out _ _ M.out | exact HP2.out _ _ _ M.out | go_keep) (first
    | (go_at_call 136; refine (HEp.out _ _ M.out).mono ?_; rintro e w1 ⟨rfl, x1⟩; replace M := Lib.hid (M.out.ext x1); clear x1)
    | (go_at_call 97; refine (HL.out _ M.out).mono ?_; rintro e w1 ⟨rfl, m1⟩; replace M := Lib.hid m1; have y6 : w1.cell? ⟨gp, 6, none⟩ = some (.int .u64 ep) := ((HK.out _ _ m1).1).cell 6; have z6 : w1.frozen? ⟨gp, 6, none⟩ = false := ((HK.out _ _ m1).1).frozen 6; clear m1))
  all_goals
    have y4 : w1.cell? ⟨gp, 4, none⟩ = some (.int .i64 0) := ((HK.out _ _ M.out).1).cell 4
    have z4 : w1.frozen? ⟨gp, 4, none⟩ = false := ((HK.out _ _ M.out).1).frozen 4
    have k4 : (w1.setCell ⟨gp, 6, none⟩ (.int .u64 v)).cell? ⟨gp, 4, none⟩ = some (.int .i64 0) := (((HK.out _ _ M.out).1).set 6 _).cell 4
    have f4 : (w1.setCell ⟨gp, 6, none⟩ (.int .u64 v)).frozen? ⟨gp, 4, none⟩ = false := (((HK.out _ _ M.out).1).set 6 _).frozen 4
    have k2 : ((w1.setCell ⟨gp, 6, none⟩ (.int .u64 v)).setCell ⟨gp, 4, none⟩ (.int .i64 1)).cell? ⟨gp, 2, none⟩ = some (.bool false) := ((((HK.out _ _ M.out).1).set 6 _).set 4 _).cell 2
    go_wp2_with fail
    have f : Fr (fun b => b = gp) w1 ((w1.setCell ⟨gp, 6, none⟩ (.int .u64 v)).setCell ⟨gp, 4, none⟩ (.int .i64 1)) := Fr.setCell (S := fun b => b = gp) (p := ⟨gp, 4, none⟩) (Fr.setCell (S := fun b => b = gp) (p := ⟨gp, 6, none⟩) (Fr.refl _ w1) (Or.inl rfl) _) (Or.inl rfl) _
    go_ret
    refine ⟨rfl, M.out.turn f (fun b e => by rw [e]; exact qp) (fun b e => by rw [e]; exact p0), (((HK.out _ _ M.out).1).set 6 _).set 4 _, fun b hb hne => ?_⟩
    exact (f.block b (M.out.lt.2 b hb) hne).trans (M.out.keptQ b hb)
set_option maxRecDepth 100000 in
set_option maxHeartbeats 4000000 in
theorem cnStep_0 (h : IsMem Q w w0 w gm dv pv s) (hc : Calm s) (ok : Okay F) (hb : Blk w gp 207 (cnCells gl t place false)) (hl : Blk w gl 223 (cellsF F)) (qp : Q gp) (ql : Q gl) (nlp : gl ≠ gp) (p0 : w0.heap.size ≤ gp) :
    Calls Tryz.prog 61 #[.pointer (some ⟨gp, 0, none⟩), .pointer (some ⟨gm, 0, none⟩)] w (StepPost Q w0 w gm gp 207 dv pv (s.store t (logN F t place) 0) true (cnCells gl t place true)) := by
  have HK : Hid (∀ W s', IsMem Q w w0 W gm dv pv s' → Blk W gp 207 (cnCells gl t place false) ∧ Blk W gl 223 (cellsF F)) := Lib.hid (fun W s' m => ⟨(m.keptQ gp qp).trans hb, (m.keptQ gl ql).trans hl⟩)
  have HP : Hid (∀ W s', IsMem Q w w0 W gm dv pv s' → W.cell? ⟨gp, 0, none⟩ = some (.pointer (some ⟨gl, 0, none⟩)) ∧ W.cell? ⟨gp, 1, none⟩ = some (.int .i64 t) ∧ W.cell? ⟨gp, 3, none⟩ = some (.int .i64 place)) := Lib.hid (fun W s' m => ⟨((HK.out W s' m).1).cell 0, ((HK.out W s' m).1).cell 1, ((HK.out W s' m).1).cell 3⟩)
  have har := logN_rng ok t place
  have HEn : Hid (∀ W s', IsMem Q w w0 W gm dv pv s' → Calls Tryz.prog 146 #[.pointer (some ⟨gp, 0, none⟩), .int .i64 place] W fun e w' => e = .returned (.int .i64 (logN F t place)) ∧ Ext W w') := Lib.hid (fun W s' m => entry_ok ok gp gl t place W (HK.out W s' m).2 (HP.out W s' m).1 (HP.out W s' m).2.1)
  have HL : Hid (∀ W, IsMem Q w w0 W gm dv pv s → Calls Tryz.prog 50 #[.pointer (some ⟨gm, 0, none⟩), .int .i64 t, .int .i64 (logN F t place), .int .u64 0] W fun e w' => (∃ u, e = .returned u) ∧ IsMem Q w w0 w' gm dv pv (s.store t (logN F t place) 0)) := Lib.hid (fun W m => memStore_ok m t _ 0 har.1 har.2 ⟨by decide, by decide⟩ hc)
  have M := Lib.hid (h.ext ((Ext.refl w).drew))
  clear har
  generalize s.store t (logN F t place) 0 = s1 at *
  generalize logN F t place = a at *
  have c2 : w.cell? ⟨gp, 2, none⟩ = some (.bool false) := hb.cell 2
  have c0 : w.cell? ⟨gp, 0, none⟩ = some (.pointer (some ⟨gl, 0, none⟩)) := hb.cell 0
  clear h hb hl hc ok
  go_enter Tryz.func61, Tryz.ntmps61
  go_wp2_with fail
  refine (doneCancel_ok _ gp false c2).mono ?_
  rintro e w' ⟨rfl, rfl⟩
  go_wp2_with fail
  go_region_held3 (fun W => W.cell? ⟨gp, 0, none⟩ = some (.pointer (some ⟨gl, 0, none⟩)) ∧ W.cell? ⟨gp, 1, none⟩ = some (.int .i64 t) ∧ W.cell? ⟨gp, 3, none⟩ = some (.int .i64 place)) (first | exact HP.out _ _ M.out | go_keep) (first
    | (go_at_call 146; refine (HEn.out _ _ M.out).mono ?_; rintro e w1 ⟨rfl, x1⟩; replace M := Lib.hid (M.out.ext x1); clear x1)
    | (go_at_call 50; refine (HL.out _ M.out).mono ?_; rintro e w1 ⟨⟨u, rfl⟩, m1⟩; replace M := Lib.hid m1; clear m1))
  all_goals
    have y2 : w1.cell? ⟨gp, 2, none⟩ = some (.bool false) := ((HK.out _ _ M.out).1).cell 2
    have z2 : w1.frozen? ⟨gp, 2, none⟩ = false := ((HK.out _ _ M.out).1).frozen 2
    go_wp2_with fail
    have f : Fr (fun b => b = gp) w1 (w1.setCell ⟨gp, 2, none⟩ (.bool true)) := Fr.setCell (S := fun b => b = gp) (p := ⟨gp, 2, none⟩) (Fr.refl _ w1) (Or.inl rfl) _
    go_ret
    refine ⟨rfl, M.out.turn f (fun b e => by rw [e]; exact qp) (fun b e => by rw [e]; exact p0), ((HK.out _ _ M.out).1).set 2 _, fun b hb hne => ?_⟩
    exact (f.block b (M.out.lt.2 b hb) hne).trans (M.out.keptQ b hb)
end
end Go.Proofs.YtfbobdkfibhcnaaGreat
