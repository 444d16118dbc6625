/- The number of a word by its name, as the law asks for it. Conditions: those that each theorem names. -/
import Derived.Test.YtljleibhncidmaaLay7
namespace Go.Proofs.Ytljleibhncidmaa
open Go.ChangeShapes Go.WideShapes Go.ChangeAt Go.RowKit
set_option linter.unusedVariables false
/-- A layout's cells, by their numbers. -/
def cellsF (F : Nat → Int) : List Value := (List.range 29).map fun j => .int .i64 (F j)
theorem cellsF_at (F : Nat → Int) (j : Nat) (h : j < 29) : (cellsF F)[j]? = some (.int .i64 (F j)) := by
  unfold cellsF
  rw [List.getElem?_map, List.getElem?_range h]; rfl
theorem noughts_F : noughts = cellsF (fun _ => 0) := rfl
structure RowOk (F : Nat → Int) (r : Nat) : Prop where
  a : Small (F r)
  d : -1000 ≤ F (r + 1) ∧ F (r + 1) ≤ 1000
  m : F (r + 2) ≤ 65536
/-- The numbers lie in bounds, so that none is cut. -/
structure Okay (F : Nat → Int) : Prop where
  v0 : 0 ≤ F 4
  v1 : F 4 ≤ 1000000
  r9 : RowOk F 9
  r12 : RowOk F 12
  r15 : RowOk F 15
  r18 : RowOk F 18
  r23 : RowOk F 23
  r26 : RowOk F 26
  c2 : F 2 ≤ 1000
  d0 : 0 ≤ F 19
  d1 : F 19 ≤ 1000
  m0 : 0 ≤ F 20
  dm : Small (F 19 * F 20)
theorem okay0 : Okay (fun _ => 0) := by
  have hr : ∀ r, RowOk (fun _ => 0) r := fun r => ⟨⟨by decide, by decide⟩, ⟨by decide, by decide⟩, by decide⟩
  exact ⟨by decide, by decide, hr 9, hr 12, hr 15, hr 18, hr 23, hr 26, by decide, by decide, by decide, by decide, ⟨by decide, by decide⟩⟩
/-- The number of a word by its kind and numbers. -/
def toldF (F : Nat → Int) (k a b : Int) : Int := if k = 2 then F 6 else if k = 3 then F 7 else if k = 4 then F 8 else if k = 5 then wordAt (F 4) (F 9) (F 10) (F 11) a 0 else if k = 6 then wordAt (F 4) (F 12) (F 13) (F 14) a 0 else if k = 7 then wordAt (F 4) (F 12) (F 13) (F 14) a 1 else if k = 8 then logAt (F 4) (F 15) (F 16) (F 17) (F 2) a b else if k = 9 then wordAt (F 4) (F 18) (F 19) (F 20) a 0 else if k = 10 then wordAt (F 4) (F 18) (F 19) (F 20) a 1 else if k = 11 then wordAt (F 4) (F 18) (F 19) (F 20) a 2 else if k = 12 then wordAt (F 4) (F 18) (F 19) (F 20) a 3 else if k = 13 then wordAt (F 4) (F 18) (F 19) (F 20) a 4 else if k = 14 then F 21 else if k = 15 then F 22 else if k = 16 then wordAt (F 4) (F 23) (F 24) (F 25) a 0 else wordAt (F 4) (F 26) (F 27) (F 28) a 0
set_option maxRecDepth 100000 in
set_option maxHeartbeats 1000000 in
theorem told_2 (F : Nat → Int) (ok : Okay F) (p : Option Addr) (a b : Int) (w : World) (h : LayAt w p (cellsF F)) :
    Calls Try.prog 26 #[.pointer p, .agg #[.int .i64 2, .int .i64 a, .int .i64 b]] w fun e w' => e = .returned (.int .i64 (toldF F 2 a b)) ∧ Ext w w' := by
  have H := Lib.hid (fun W (hW : LayAt W p (cellsF F)) => tHead_any p (cellsF F) (F 6) W hW (cellsF_at F 6 (by omega)))
  have HT := Lib.hid (show toldF F 2 a b = F 6 from rfl)
  have h' := Lib.hid (h.ext ((Ext.refl w).alloc (.cells #[.int .i64 2, .int .i64 a, .int .i64 b] 50)))
  clear h
  go_enter Try.func26, Try.ntmps26
  go_wp2_with fail
  refine (H.out _ h'.out).mono ?_
  rintro e w2 ⟨rfl, x2⟩
  go_wp2_with fail
  go_ret
  exact ⟨reti HT.out.symm, ((Ext.refl w).alloc _).trans x2⟩
set_option maxRecDepth 100000 in
set_option maxHeartbeats 1000000 in
theorem told_3 (F : Nat → Int) (ok : Okay F) (p : Option Addr) (a b : Int) (w : World) (h : LayAt w p (cellsF F)) :
    Calls Try.prog 26 #[.pointer p, .agg #[.int .i64 3, .int .i64 a, .int .i64 b]] w fun e w' => e = .returned (.int .i64 (toldF F 3 a b)) ∧ Ext w w' := by
  have H := Lib.hid (fun W (hW : LayAt W p (cellsF F)) => tTail_any p (cellsF F) (F 7) W hW (cellsF_at F 7 (by omega)))
  have HT := Lib.hid (show toldF F 3 a b = F 7 from rfl)
  have h' := Lib.hid (h.ext ((Ext.refl w).alloc (.cells #[.int .i64 3, .int .i64 a, .int .i64 b] 50)))
  clear h
  go_enter Try.func26, Try.ntmps26
  go_wp2_with fail
  refine (H.out _ h'.out).mono ?_
  rintro e w2 ⟨rfl, x2⟩
  go_wp2_with fail
  go_ret
  exact ⟨reti HT.out.symm, ((Ext.refl w).alloc _).trans x2⟩
set_option maxRecDepth 100000 in
set_option maxHeartbeats 1000000 in
theorem told_4 (F : Nat → Int) (ok : Okay F) (p : Option Addr) (a b : Int) (w : World) (h : LayAt w p (cellsF F)) :
    Calls Try.prog 26 #[.pointer p, .agg #[.int .i64 4, .int .i64 a, .int .i64 b]] w fun e w' => e = .returned (.int .i64 (toldF F 4 a b)) ∧ Ext w w' := by
  have H := Lib.hid (fun W (hW : LayAt W p (cellsF F)) => tSet_any p (cellsF F) (F 8) W hW (cellsF_at F 8 (by omega)))
  have HT := Lib.hid (show toldF F 4 a b = F 8 from rfl)
  have h' := Lib.hid (h.ext ((Ext.refl w).alloc (.cells #[.int .i64 4, .int .i64 a, .int .i64 b] 50)))
  clear h
  go_enter Try.func26, Try.ntmps26
  go_wp2_with fail
  refine (H.out _ h'.out).mono ?_
  rintro e w2 ⟨rfl, x2⟩
  go_wp2_with fail
  go_ret
  exact ⟨reti HT.out.symm, ((Ext.refl w).alloc _).trans x2⟩
set_option maxRecDepth 100000 in
set_option maxHeartbeats 1000000 in
theorem told_5 (F : Nat → Int) (ok : Okay F) (p : Option Addr) (a b : Int) (w : World) (h : LayAt w p (cellsF F)) :
    Calls Try.prog 26 #[.pointer p, .agg #[.int .i64 5, .int .i64 a, .int .i64 b]] w fun e w' => e = .returned (.int .i64 (toldF F 5 a b)) ∧ Ext w w' := by
  have H := Lib.hid (fun W (hW : LayAt W p (cellsF F)) => tBucket_any p (cellsF F) (F 4) (F 9) (F 10) (F 11) a W hW (cellsF_at F 4 (by omega)) ok.v0 ok.v1 ok.r9.a ok.r9.d ok.r9.m (cellsF_at F 9 (by omega)) (cellsF_at F 10 (by omega)) (cellsF_at F 11 (by omega)))
  have HT := Lib.hid (show toldF F 5 a b = wordAt (F 4) (F 9) (F 10) (F 11) a 0 from rfl)
  have h' := Lib.hid (h.ext ((Ext.refl w).alloc (.cells #[.int .i64 5, .int .i64 a, .int .i64 b] 50)))
  clear h
  go_enter Try.func26, Try.ntmps26
  go_wp2_with fail
  refine (H.out _ h'.out).mono ?_
  rintro e w2 ⟨rfl, x2⟩
  go_wp2_with fail
  go_ret
  exact ⟨reti HT.out.symm, ((Ext.refl w).alloc _).trans x2⟩
set_option maxRecDepth 100000 in
set_option maxHeartbeats 1000000 in
theorem told_6 (F : Nat → Int) (ok : Okay F) (p : Option Addr) (a b : Int) (w : World) (h : LayAt w p (cellsF F)) :
    Calls Try.prog 26 #[.pointer p, .agg #[.int .i64 6, .int .i64 a, .int .i64 b]] w fun e w' => e = .returned (.int .i64 (toldF F 6 a b)) ∧ Ext w w' := by
  have H := Lib.hid (fun W (hW : LayAt W p (cellsF F)) => tCell_any p (cellsF F) (F 4) (F 12) (F 13) (F 14) a W hW (cellsF_at F 4 (by omega)) ok.v0 ok.v1 ok.r12.a ok.r12.d ok.r12.m (cellsF_at F 12 (by omega)) (cellsF_at F 13 (by omega)) (cellsF_at F 14 (by omega)))
  have HT := Lib.hid (show toldF F 6 a b = wordAt (F 4) (F 12) (F 13) (F 14) a 0 from rfl)
  have h' := Lib.hid (h.ext ((Ext.refl w).alloc (.cells #[.int .i64 6, .int .i64 a, .int .i64 b] 50)))
  clear h
  go_enter Try.func26, Try.ntmps26
  go_wp2_with fail
  refine (H.out _ h'.out).mono ?_
  rintro e w2 ⟨rfl, x2⟩
  go_wp2_with fail
  go_ret
  exact ⟨reti HT.out.symm, ((Ext.refl w).alloc _).trans x2⟩
set_option maxRecDepth 100000 in
set_option maxHeartbeats 1000000 in
theorem told_7 (F : Nat → Int) (ok : Okay F) (p : Option Addr) (a b : Int) (w : World) (h : LayAt w p (cellsF F)) :
    Calls Try.prog 26 #[.pointer p, .agg #[.int .i64 7, .int .i64 a, .int .i64 b]] w fun e w' => e = .returned (.int .i64 (toldF F 7 a b)) ∧ Ext w w' := by
  have H := Lib.hid (fun W (hW : LayAt W p (cellsF F)) => tIntent_any p (cellsF F) (F 4) (F 12) (F 13) (F 14) a W hW (cellsF_at F 4 (by omega)) ok.v0 ok.v1 ok.r12.a ok.r12.d ok.r12.m (cellsF_at F 12 (by omega)) (cellsF_at F 13 (by omega)) (cellsF_at F 14 (by omega)))
  have HT := Lib.hid (show toldF F 7 a b = wordAt (F 4) (F 12) (F 13) (F 14) a 1 from rfl)
  have h' := Lib.hid (h.ext ((Ext.refl w).alloc (.cells #[.int .i64 7, .int .i64 a, .int .i64 b] 50)))
  clear h
  go_enter Try.func26, Try.ntmps26
  go_wp2_with fail
  refine (H.out _ h'.out).mono ?_
  rintro e w2 ⟨rfl, x2⟩
  go_wp2_with fail
  go_ret
  exact ⟨reti HT.out.symm, ((Ext.refl w).alloc _).trans x2⟩
set_option maxRecDepth 100000 in
set_option maxHeartbeats 1000000 in
theorem told_8 (F : Nat → Int) (ok : Okay F) (p : Option Addr) (a b : Int) (w : World) (h : LayAt w p (cellsF F)) :
    Calls Try.prog 26 #[.pointer p, .agg #[.int .i64 8, .int .i64 a, .int .i64 b]] w fun e w' => e = .returned (.int .i64 (toldF F 8 a b)) ∧ Ext w w' := by
  have H := Lib.hid (fun W (hW : LayAt W p (cellsF F)) => tLog_any p (cellsF F) (F 4) (F 15) (F 16) (F 17) (F 2) a b W hW (cellsF_at F 4 (by omega)) ok.v0 ok.v1 ok.r15.a ok.r15.d ok.r15.m ok.c2 (cellsF_at F 2 (by omega)) (cellsF_at F 15 (by omega)) (cellsF_at F 16 (by omega)) (cellsF_at F 17 (by omega)))
  have HT := Lib.hid (show toldF F 8 a b = logAt (F 4) (F 15) (F 16) (F 17) (F 2) a b from rfl)
  have h' := Lib.hid (h.ext ((Ext.refl w).alloc (.cells #[.int .i64 8, .int .i64 a, .int .i64 b] 50)))
  clear h
  go_enter Try.func26, Try.ntmps26
  go_wp2_with fail
  refine (H.out _ h'.out).mono ?_
  rintro e w2 ⟨rfl, x2⟩
  go_wp2_with fail
  go_ret
  exact ⟨reti HT.out.symm, ((Ext.refl w).alloc _).trans x2⟩
set_option maxRecDepth 100000 in
set_option maxHeartbeats 1000000 in
theorem told_9 (F : Nat → Int) (ok : Okay F) (p : Option Addr) (a b : Int) (w : World) (h : LayAt w p (cellsF F)) :
    Calls Try.prog 26 #[.pointer p, .agg #[.int .i64 9, .int .i64 a, .int .i64 b]] w fun e w' => e = .returned (.int .i64 (toldF F 9 a b)) ∧ Ext w w' := by
  have H := Lib.hid (fun W (hW : LayAt W p (cellsF F)) => tGen_any p (cellsF F) (F 4) (F 18) (F 19) (F 20) a W hW (cellsF_at F 4 (by omega)) ok.v0 ok.v1 ok.r18.a ok.r18.d ok.r18.m (cellsF_at F 18 (by omega)) (cellsF_at F 19 (by omega)) (cellsF_at F 20 (by omega)))
  have HT := Lib.hid (show toldF F 9 a b = wordAt (F 4) (F 18) (F 19) (F 20) a 0 from rfl)
  have h' := Lib.hid (h.ext ((Ext.refl w).alloc (.cells #[.int .i64 9, .int .i64 a, .int .i64 b] 50)))
  clear h
  go_enter Try.func26, Try.ntmps26
  go_wp2_with fail
  refine (H.out _ h'.out).mono ?_
  rintro e w2 ⟨rfl, x2⟩
  go_wp2_with fail
  go_ret
  exact ⟨reti HT.out.symm, ((Ext.refl w).alloc _).trans x2⟩
set_option maxRecDepth 100000 in
set_option maxHeartbeats 1000000 in
theorem told_10 (F : Nat → Int) (ok : Okay F) (p : Option Addr) (a b : Int) (w : World) (h : LayAt w p (cellsF F)) :
    Calls Try.prog 26 #[.pointer p, .agg #[.int .i64 10, .int .i64 a, .int .i64 b]] w fun e w' => e = .returned (.int .i64 (toldF F 10 a b)) ∧ Ext w w' := by
  have H := Lib.hid (fun W (hW : LayAt W p (cellsF F)) => tKey_any p (cellsF F) (F 4) (F 18) (F 19) (F 20) a W hW (cellsF_at F 4 (by omega)) ok.v0 ok.v1 ok.r18.a ok.r18.d ok.r18.m (cellsF_at F 18 (by omega)) (cellsF_at F 19 (by omega)) (cellsF_at F 20 (by omega)))
  have HT := Lib.hid (show toldF F 10 a b = wordAt (F 4) (F 18) (F 19) (F 20) a 1 from rfl)
  have h' := Lib.hid (h.ext ((Ext.refl w).alloc (.cells #[.int .i64 10, .int .i64 a, .int .i64 b] 50)))
  clear h
  go_enter Try.func26, Try.ntmps26
  go_wp2_with fail
  refine (H.out _ h'.out).mono ?_
  rintro e w2 ⟨rfl, x2⟩
  go_wp2_with fail
  go_ret
  exact ⟨reti HT.out.symm, ((Ext.refl w).alloc _).trans x2⟩
set_option maxRecDepth 100000 in
set_option maxHeartbeats 1000000 in
theorem told_11 (F : Nat → Int) (ok : Okay F) (p : Option Addr) (a b : Int) (w : World) (h : LayAt w p (cellsF F)) :
    Calls Try.prog 26 #[.pointer p, .agg #[.int .i64 11, .int .i64 a, .int .i64 b]] w fun e w' => e = .returned (.int .i64 (toldF F 11 a b)) ∧ Ext w w' := by
  have H := Lib.hid (fun W (hW : LayAt W p (cellsF F)) => tVal_any p (cellsF F) (F 4) (F 18) (F 19) (F 20) a W hW (cellsF_at F 4 (by omega)) ok.v0 ok.v1 ok.r18.a ok.r18.d ok.r18.m (cellsF_at F 18 (by omega)) (cellsF_at F 19 (by omega)) (cellsF_at F 20 (by omega)))
  have HT := Lib.hid (show toldF F 11 a b = wordAt (F 4) (F 18) (F 19) (F 20) a 2 from rfl)
  have h' := Lib.hid (h.ext ((Ext.refl w).alloc (.cells #[.int .i64 11, .int .i64 a, .int .i64 b] 50)))
  clear h
  go_enter Try.func26, Try.ntmps26
  go_wp2_with fail
  refine (H.out _ h'.out).mono ?_
  rintro e w2 ⟨rfl, x2⟩
  go_wp2_with fail
  go_ret
  exact ⟨reti HT.out.symm, ((Ext.refl w).alloc _).trans x2⟩
set_option maxRecDepth 100000 in
set_option maxHeartbeats 1000000 in
theorem told_12 (F : Nat → Int) (ok : Okay F) (p : Option Addr) (a b : Int) (w : World) (h : LayAt w p (cellsF F)) :
    Calls Try.prog 26 #[.pointer p, .agg #[.int .i64 12, .int .i64 a, .int .i64 b]] w fun e w' => e = .returned (.int .i64 (toldF F 12 a b)) ∧ Ext w w' := by
  have H := Lib.hid (fun W (hW : LayAt W p (cellsF F)) => tNext_any p (cellsF F) (F 4) (F 18) (F 19) (F 20) a W hW (cellsF_at F 4 (by omega)) ok.v0 ok.v1 ok.r18.a ok.r18.d ok.r18.m (cellsF_at F 18 (by omega)) (cellsF_at F 19 (by omega)) (cellsF_at F 20 (by omega)))
  have HT := Lib.hid (show toldF F 12 a b = wordAt (F 4) (F 18) (F 19) (F 20) a 3 from rfl)
  have h' := Lib.hid (h.ext ((Ext.refl w).alloc (.cells #[.int .i64 12, .int .i64 a, .int .i64 b] 50)))
  clear h
  go_enter Try.func26, Try.ntmps26
  go_wp2_with fail
  refine (H.out _ h'.out).mono ?_
  rintro e w2 ⟨rfl, x2⟩
  go_wp2_with fail
  go_ret
  exact ⟨reti HT.out.symm, ((Ext.refl w).alloc _).trans x2⟩
set_option maxRecDepth 100000 in
set_option maxHeartbeats 1000000 in
theorem told_13 (F : Nat → Int) (ok : Okay F) (p : Option Addr) (a b : Int) (w : World) (h : LayAt w p (cellsF F)) :
    Calls Try.prog 26 #[.pointer p, .agg #[.int .i64 13, .int .i64 a, .int .i64 b]] w fun e w' => e = .returned (.int .i64 (toldF F 13 a b)) ∧ Ext w w' := by
  have H := Lib.hid (fun W (hW : LayAt W p (cellsF F)) => tTag_any p (cellsF F) (F 4) (F 18) (F 19) (F 20) a W hW (cellsF_at F 4 (by omega)) ok.v0 ok.v1 ok.r18.a ok.r18.d ok.r18.m (cellsF_at F 18 (by omega)) (cellsF_at F 19 (by omega)) (cellsF_at F 20 (by omega)))
  have HT := Lib.hid (show toldF F 13 a b = wordAt (F 4) (F 18) (F 19) (F 20) a 4 from rfl)
  have h' := Lib.hid (h.ext ((Ext.refl w).alloc (.cells #[.int .i64 13, .int .i64 a, .int .i64 b] 50)))
  clear h
  go_enter Try.func26, Try.ntmps26
  go_wp2_with fail
  refine (H.out _ h'.out).mono ?_
  rintro e w2 ⟨rfl, x2⟩
  go_wp2_with fail
  go_ret
  exact ⟨reti HT.out.symm, ((Ext.refl w).alloc _).trans x2⟩
set_option maxRecDepth 100000 in
set_option maxHeartbeats 1000000 in
theorem told_14 (F : Nat → Int) (ok : Okay F) (p : Option Addr) (a b : Int) (w : World) (h : LayAt w p (cellsF F)) :
    Calls Try.prog 26 #[.pointer p, .agg #[.int .i64 14, .int .i64 a, .int .i64 b]] w fun e w' => e = .returned (.int .i64 (toldF F 14 a b)) ∧ Ext w w' := by
  have H := Lib.hid (fun W (hW : LayAt W p (cellsF F)) => tEpoch_any p (cellsF F) (F 21) W hW (cellsF_at F 21 (by omega)))
  have HT := Lib.hid (show toldF F 14 a b = F 21 from rfl)
  have h' := Lib.hid (h.ext ((Ext.refl w).alloc (.cells #[.int .i64 14, .int .i64 a, .int .i64 b] 50)))
  clear h
  go_enter Try.func26, Try.ntmps26
  go_wp2_with fail
  refine (H.out _ h'.out).mono ?_
  rintro e w2 ⟨rfl, x2⟩
  go_wp2_with fail
  go_ret
  exact ⟨reti HT.out.symm, ((Ext.refl w).alloc _).trans x2⟩
set_option maxRecDepth 100000 in
set_option maxHeartbeats 1000000 in
theorem told_15 (F : Nat → Int) (ok : Okay F) (p : Option Addr) (a b : Int) (w : World) (h : LayAt w p (cellsF F)) :
    Calls Try.prog 26 #[.pointer p, .agg #[.int .i64 15, .int .i64 a, .int .i64 b]] w fun e w' => e = .returned (.int .i64 (toldF F 15 a b)) ∧ Ext w w' := by
  have H := Lib.hid (fun W (hW : LayAt W p (cellsF F)) => tFree_any p (cellsF F) (F 22) W hW (cellsF_at F 22 (by omega)))
  have HT := Lib.hid (show toldF F 15 a b = F 22 from rfl)
  have h' := Lib.hid (h.ext ((Ext.refl w).alloc (.cells #[.int .i64 15, .int .i64 a, .int .i64 b] 50)))
  clear h
  go_enter Try.func26, Try.ntmps26
  go_wp2_with fail
  refine (H.out _ h'.out).mono ?_
  rintro e w2 ⟨rfl, x2⟩
  go_wp2_with fail
  go_ret
  exact ⟨reti HT.out.symm, ((Ext.refl w).alloc _).trans x2⟩
set_option maxRecDepth 100000 in
set_option maxHeartbeats 1000000 in
theorem told_16 (F : Nat → Int) (ok : Okay F) (p : Option Addr) (a b : Int) (w : World) (h : LayAt w p (cellsF F)) :
    Calls Try.prog 26 #[.pointer p, .agg #[.int .i64 16, .int .i64 a, .int .i64 b]] w fun e w' => e = .returned (.int .i64 (toldF F 16 a b)) ∧ Ext w w' := by
  have H := Lib.hid (fun W (hW : LayAt W p (cellsF F)) => tAnnounce_any p (cellsF F) (F 4) (F 23) (F 24) (F 25) a W hW (cellsF_at F 4 (by omega)) ok.v0 ok.v1 ok.r23.a ok.r23.d ok.r23.m (cellsF_at F 23 (by omega)) (cellsF_at F 24 (by omega)) (cellsF_at F 25 (by omega)))
  have HT := Lib.hid (show toldF F 16 a b = wordAt (F 4) (F 23) (F 24) (F 25) a 0 from rfl)
  have h' := Lib.hid (h.ext ((Ext.refl w).alloc (.cells #[.int .i64 16, .int .i64 a, .int .i64 b] 50)))
  clear h
  go_enter Try.func26, Try.ntmps26
  go_wp2_with fail
  refine (H.out _ h'.out).mono ?_
  rintro e w2 ⟨rfl, x2⟩
  go_wp2_with fail
  go_ret
  exact ⟨reti HT.out.symm, ((Ext.refl w).alloc _).trans x2⟩
set_option maxRecDepth 100000 in
set_option maxHeartbeats 1000000 in
theorem told_17 (F : Nat → Int) (ok : Okay F) (p : Option Addr) (a b : Int) (w : World) (h : LayAt w p (cellsF F)) :
    Calls Try.prog 26 #[.pointer p, .agg #[.int .i64 17, .int .i64 a, .int .i64 b]] w fun e w' => e = .returned (.int .i64 (toldF F 17 a b)) ∧ Ext w w' := by
  have H := Lib.hid (fun W (hW : LayAt W p (cellsF F)) => tAfter_any p (cellsF F) (F 4) (F 26) (F 27) (F 28) a W hW (cellsF_at F 4 (by omega)) ok.v0 ok.v1 ok.r26.a ok.r26.d ok.r26.m (cellsF_at F 26 (by omega)) (cellsF_at F 27 (by omega)) (cellsF_at F 28 (by omega)))
  have HT := Lib.hid (show toldF F 17 a b = wordAt (F 4) (F 26) (F 27) (F 28) a 0 from rfl)
  have h' := Lib.hid (h.ext ((Ext.refl w).alloc (.cells #[.int .i64 17, .int .i64 a, .int .i64 b] 50)))
  clear h
  go_enter Try.func26, Try.ntmps26
  go_wp2_with fail
  refine (H.out _ h'.out).mono ?_
  rintro e w2 ⟨rfl, x2⟩
  go_wp2_with fail
  go_ret
  exact ⟨reti HT.out.symm, ((Ext.refl w).alloc _).trans x2⟩
theorem told_any (F : Nat → Int) (ok : Okay F) (p : Option Addr) (k a b : Int) (w : World) (h : LayAt w p (cellsF F)) (h2 : 2 ≤ k) (h17 : k ≤ 17) :
    Calls Try.prog 26 #[.pointer p, .agg #[.int .i64 k, .int .i64 a, .int .i64 b]] w fun e w' => e = .returned (.int .i64 (toldF F k a b)) ∧ Ext w w' := by
  have hk : k = 2 ∨ k = 3 ∨ k = 4 ∨ k = 5 ∨ k = 6 ∨ k = 7 ∨ k = 8 ∨ k = 9 ∨ k = 10 ∨ k = 11 ∨ k = 12 ∨ k = 13 ∨ k = 14 ∨ k = 15 ∨ k = 16 ∨ k = 17 := by omega
  rcases hk with rfl | rfl | rfl | rfl | rfl | rfl | rfl | rfl | rfl | rfl | rfl | rfl | rfl | rfl | rfl | rfl
  · exact told_2 F ok p a b w h
  · exact told_3 F ok p a b w h
  · exact told_4 F ok p a b w h
  · exact told_5 F ok p a b w h
  · exact told_6 F ok p a b w h
  · exact told_7 F ok p a b w h
  · exact told_8 F ok p a b w h
  · exact told_9 F ok p a b w h
  · exact told_10 F ok p a b w h
  · exact told_11 F ok p a b w h
  · exact told_12 F ok p a b w h
  · exact told_13 F ok p a b w h
  · exact told_14 F ok p a b w h
  · exact told_15 F ok p a b w h
  · exact told_16 F ok p a b w h
  · exact told_17 F ok p a b w h
end Go.Proofs.Ytljleibhncidmaa
