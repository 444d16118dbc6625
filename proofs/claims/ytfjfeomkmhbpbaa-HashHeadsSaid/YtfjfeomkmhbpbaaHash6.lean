/- Package hash: in which list an operation's key lies, as the program and the document have it. Conditions: those that each theorem names. -/
import Derived.Test.YtfjfeomkmhbpbaaHash5
import Derived.Test.YtfjfeomkmhbpbaaAt
import Derived.Test.YtfjfeomkmhbpbaaGr1
import Derived.Deep.RegionHeld3
import Derived.Deep.DeepCutAuto
namespace Go.Proofs.Ytfjfeomkmhbpbaa
open Go.ChangeShapes Go.WideShapes Go.ChangeAt Go.RowKit
set_option linter.unusedVariables false
/-- The head of an operation's list: x is its key's mix. -/
def hdN (F : Nat → Int) (b : Nat) (kd : Int) (x : Nat) : Int := if 3 ≤ kd ∧ kd ≤ 5 then F 8 else if 6 ≤ kd ∧ kd ≤ 8 then bktN F ((x : Int) % (b : Int)) else F 4 * 8
theorem last8 (t s l b : Nat) : layF t s l b 4 * 8 = ((NM.last t s l b).length : Int) := by
  rw [NM.last_len t s l b]
  show (5 + ((b : Int) + 7) / 8 + t + t * (((l : Int) + 7) / 8) + s) * 8 = _
  have e1 : ((l : Int) + 7) / 8 = (((l + 7) / 8 : Nat) : Int) := by omega
  have e2 : ((b : Int) + 7) / 8 = (((b + 7) / 8 : Nat) : Int) := by omega
  rw [e1, e2, Int.mul_comm (t : Int)]
  generalize (l + 7) / 8 = nl
  generalize (b + 7) / 8 = nb
  simp only [Int.natCast_add, Int.natCast_mul]
  have e8 : ((8 : Nat) : Int) = 8 := rfl
  rw [e8]
  generalize (nl : Int) * (t : Int) = z
  omega
/-- Where the sets' word lies. -/
theorem at_set (t s l b : Nat) (w : World) (ht : t ≤ 12) (hs : s ≤ 60) (hs1 : 1 ≤ s) (hl1 : l ≤ 64) (hb1 : b ≤ 64) :
    Calls Try.prog 34 #[.agg #[.int .i64 t, .int .i64 s, .int .i64 l, .int .i64 b], .agg #[.int .i64 4, .int .i64 0, .int .i64 0]] w fun e w' => e = .returned (.int .i64 (layF t s l b 8)) ∧ Ext w w' := by
  have hQb : (l + 7) / 8 * t ≤ 8 * 12 := Nat.mul_le_mul (by omega) ht
  have hlen := NM.last_len t s l b
  have hpen := NM.pass_len t s
  refine at_walk t s l b (NM.last t s l b).length (NM.pass t s).length 4 0 0 _ (NM.last t s l b) (NM.pass t s) w (Lib.hid rfl) (Lib.hid rfl) (by omega) (by omega) (by omega) (by omega) (Lib.hid (fun j hj e => ?_)) (Lib.hid (fun j hj e => ?_)) (Lib.hid (fun hL hM => ?_)) (Lib.hid (fun W => lasting_any t s l b W (by omega) (by omega) hl1 hb1)) (Lib.hid (fun W => passing_any t s l b W (by omega) (by omega)))
  · have hf := NM.fits_last t s l b j hj
    rw [e] at hf
    simp only at hf
    rcases hf with hf | ⟨_, _, hf⟩
    · omega
    · have e4 : toldF (layF t s l b) 4 0 0 = layF t s l b 8 := rfl
      rw [e4] at hf
      rw [hf]; omega
  · have hf := NM.fits_pass t s l b j hj
    rw [e] at hf
    exact hf.2.2
  · have h32 := hL 32 (by omega)
    exfalso
    apply h32
    unfold NM.last
    simp only [List.append_assoc]
    rw [List.getD_eq_getElem?_getD, List.getElem?_append_left (by rw [NM.upto4_len]; omega)]
    rfl
theorem at_bucket (t s l b : Nat) (n : Int) (w : World) (ht : t ≤ 12) (hs : s ≤ 60) (hs1 : 1 ≤ s) (hl1 : l ≤ 64) (hb1 : b ≤ 64) :
    Calls Try.prog 34 #[.agg #[.int .i64 t, .int .i64 s, .int .i64 l, .int .i64 b], .agg #[.int .i64 5, .int .i64 n, .int .i64 0]] w fun e w' => e = .returned (.int .i64 (bktN (layF t s l b) n)) ∧ Ext w w' :=
  at_any t s l b 5 n 0 w ht hs hs1 hl1 hb1 (by decide) (by decide) (fun _ => rfl) (fun h => by omega)
set_option maxRecDepth 100000 in
set_option maxHeartbeats 2000000 in
theorem rhead_ok (t s l b : Nat) (hg : GrOk t s l b) (kd : Int) (a : Nat) (ha : a < 4294967296) (v : Int) (w : World) :
    Calls Try.prog 14 #[.agg #[.int .i64 t, .int .i64 s, .int .i64 l, .int .i64 b], .agg #[.int .i64 kd, .int .u32 (a : Int), .int .u32 v]] w fun e w' => e = .returned (.int .i64 (hdN (layF t s l b) b kd (HM.mixN a))) ∧ Ext w w' := by
  obtain ⟨hc, h1, h2, h3, h4⟩ := id hg
  obtain ⟨⟨q0, q1⟩, ⟨q2, q3⟩, ⟨q4, q5⟩, q6, q7⟩ := id hc
  have HS := Lib.hid (fun W => at_set t s l b W (by omega) (by omega) (by omega) (by omega) (by omega))
  have HB := Lib.hid (fun n W => at_bucket t s l b n W (by omega) (by omega) (by omega) (by omega) (by omega))
  have HL := Lib.hid (fun W => lasting_any t s l b W (by omega) (by omega) (by omega) (by omega))
  have HM8 := Lib.hid (last8 t s l b)
  have HX := Lib.hid (fun W => rmix_any a ha W)
  have HLn := NM.last_len t s l b
  have hQb : (l + 7) / 8 * t ≤ 8 * 12 := Nat.mul_le_mul (by omega) (by omega)
  have hl := HM.mixN_lt a
  generalize HM.mixN a = x at *
  generalize NM.last t s l b = L at *
  have hll : L.length ≤ 8000 := by omega
  have b1 : 1 ≤ b := by omega
  have e1 : (x : Int).tmod (b : Int) = (x : Int) % (b : Int) := by rw [Int.tmod_eq_emod_of_nonneg (by omega)]
  have e0 : ((b : Int) == 0) = false := by rw [beq_eq_false_iff_ne]; omega
  have e0' : (b : Int) ≠ 0 := by omega
  have e0'' : b ≠ 0 := by omega
  have e0d : decide (b = 0) = false := by simp; omega
  have e0e : (b == 0) = false := by rw [beq_eq_false_iff_ne]; omega
  have X0 := Lib.hid (((Ext.refl w).alloc (.cells #[.int .i64 t, .int .i64 s, .int .i64 l, .int .i64 b] 29)).alloc (.cells #[.int .i64 kd, .int .u32 (a : Int), .int .u32 v] 31))
  clear hg hc h1 h2 h3 h4 q0 q1 q2 q3 q4 q5 q6 q7 HLn hQb
  by_cases k1 : 3 ≤ kd ∧ kd ≤ 5
  · have d0 : decide (3 ≤ kd) = true := by simp; omega
    have d1 : decide (kd ≤ 5) = true := by simp; omega
    have er : hdN (layF t s l b) b kd x = layF t s l b 8 := if_pos k1
    rw [er]
    clear er k1
    generalize layF t s l b = F at *
    go_enter Try.func14, Try.ntmps14
    go_wp2_with fail
    refine (HS.out _).mono ?_
    rintro e w1 ⟨rfl, x1⟩
    go_wp2_with fail
    go_ret
    exact ⟨rfl, X0.out.trans x1⟩
  · by_cases k2 : 6 ≤ kd ∧ kd ≤ 8
    · have d0 : decide (3 ≤ kd) = true := by simp; omega
      have d1 : decide (kd ≤ 5) = false := by simp; omega
      have d2 : decide (6 ≤ kd) = true := by simp; omega
      have d3 : decide (kd ≤ 8) = true := by simp; omega
      have er : hdN (layF t s l b) b kd x = bktN (layF t s l b) ((x : Int) % (b : Int)) := by unfold hdN; rw [if_neg k1, if_pos k2]
      rw [er]
      clear er k1 k2
      generalize layF t s l b = F at *
      go_enter Try.func14, Try.ntmps14
      go_upto_region 4 with fail
      have BA := (Blk.new w 29 [.int .i64 t, .int .i64 s, .int .i64 l, .int .i64 b]).ext ((Ext.refl _).alloc (.cells #[.int .i64 kd, .int .u32 (a : Int), .int .u32 v] 31))
      have BO := Blk.new (w.alloc (.cells #[.int .i64 t, .int .i64 s, .int .i64 l, .int .i64 b] 29)) 31 [.int .i64 kd, .int .u32 (a : Int), .int .u32 v]
      simp only [World.size_alloc] at BO
      generalize (w.alloc (.cells #[.int .i64 t, .int .i64 s, .int .i64 l, .int .i64 b] 29)).alloc (.cells #[.int .i64 kd, .int .u32 (a : Int), .int .u32 v] 31) = W2 at *
      have HP : Hid (∀ W, Ext W2 W → (W.cell? ⟨w.heap.size, 0, none⟩ = some (.int .i64 t) ∧ W.cell? ⟨w.heap.size, 1, none⟩ = some (.int .i64 s) ∧ W.cell? ⟨w.heap.size, 2, none⟩ = some (.int .i64 l) ∧ W.cell? ⟨w.heap.size, 3, none⟩ = some (.int .i64 b)) ∧ W.cell? ⟨w.heap.size + 1, 1, none⟩ = some (.int .u32 (a : Int))) := Lib.hid (fun W x => ⟨⟨(BA.ext x).cell 0, (BA.ext x).cell 1, (BA.ext x).cell 2, (BA.ext x).cell 3⟩, (BO.ext x).cell 1⟩)
      have X := Lib.hid ((Ext.refl W2).drew)
      obtain ⟨⟨y0, y1, y2, y3⟩, y4⟩ := HP.out W2 (Ext.refl _)
      clear BA BO
      go_region_held3 (fun W => (W.cell? ⟨w.heap.size, 0, none⟩ = some (.int .i64 t) ∧ W.cell? ⟨w.heap.size, 1, none⟩ = some (.int .i64 s) ∧ W.cell? ⟨w.heap.size, 2, none⟩ = some (.int .i64 l) ∧ W.cell? ⟨w.heap.size, 3, none⟩ = some (.int .i64 b)) ∧ W.cell? ⟨w.heap.size + 1, 1, none⟩ = some (.int .u32 (a : Int))) (first | exact HP.out _ X.out | go_keep) (first
        | (go_at_call 9; refine (HX.out _).mono ?_; rintro e w' ⟨rfl, rfl⟩)
        | (go_at_call 34; refine (HB.out _ _).mono ?_; rintro e w1 ⟨rfl, x1⟩; replace X := Lib.hid (X.out.trans x1); clear x1))
      all_goals
        go_wp2_with fail
        go_ret
        exact ⟨rfl, X0.out.trans X.out⟩
    · have er : hdN (layF t s l b) b kd x = (L.length : Int) := by unfold hdN; rw [if_neg k1, if_neg k2]; exact HM8.out
      rw [er]
      clear er
      by_cases k3 : 3 ≤ kd
      · by_cases k6 : 6 ≤ kd
        · have d0 : decide (3 ≤ kd) = true := by simp; omega
          have d1 : decide (kd ≤ 5) = false := by simp; omega
          have d2 : decide (6 ≤ kd) = true := by simp; omega
          have d3 : decide (kd ≤ 8) = false := by simp; omega
          clear k1 k2
          go_enter Try.func14, Try.ntmps14
          go_wp2_with fail
          refine (HL.out _).mono ?_
          rintro e w1 ⟨v, rfl, ra, x1⟩
          obtain ⟨A, c, rfl, _⟩ := ra.form
          go_wp2_with fail
          go_ret
          exact ⟨rfl, X0.out.trans x1⟩
        · exfalso; omega
      · have d0 : decide (3 ≤ kd) = false := by simp; omega
        have d2 : decide (6 ≤ kd) = false := by simp; omega
        clear k1 k2
        go_enter Try.func14, Try.ntmps14
        go_wp2_with fail
        refine (HL.out _).mono ?_
        rintro e w1 ⟨v, rfl, ra, x1⟩
        obtain ⟨A, c, rfl, _⟩ := ra.form
        go_wp2_with fail
        go_ret
        exact ⟨rfl, X0.out.trans x1⟩
theorem behind16_ok {F : Nat → Int} (ok : Okay F) (gl : Nat) (w : World) (hl : Blk w gl 71 (cellsF F)) :
    Calls Try.prog 42 #[.pointer (some ⟨gl, 0, none⟩)] w fun e w' => e = .returned (.int .i64 (F 4 * 8)) ∧ Ext w w' := by
  have H := Lib.hid (tLines_any (some ⟨gl, 0, none⟩) (cellsF F) (F 4) w (Or.inl ⟨gl, rfl, hl⟩) (cellsF_at F 4 (by omega)))
  have h0 := ok.v0
  have h1 := ok.v1
  clear ok hl
  go_enter Try.func42, Try.ntmps42
  go_wp2_with fail
  refine H.out.mono ?_
  rintro e w1 ⟨rfl, x1⟩
  go_wp2_with fail
  go_ret
  exact ⟨rfl, x1⟩
end Go.Proofs.Ytfjfeomkmhbpbaa
