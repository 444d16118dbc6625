/- Package hash: in which list a key lies, as the program has it; how often a head is met among all. Conditions: those that each theorem names. -/
import Derived.Test.YtfjfeomkmhbpbaaHash6
namespace Go.Proofs.Ytfjfeomkmhbpbaa
open Go.ChangeShapes Go.WideShapes Go.ChangeAt Go.RowKit
set_option linter.unusedVariables false
/-- How often a word is met among the heads. -/
def cntW {m : Nat} (F : Nat → Int) (want : Int) (pre : List (Fin (m + 1))) : Nat := pre.countP (fun x => headN F x.val == want)
theorem cntW_nil {m : Nat} (F : Nat → Int) (want : Int) : cntW F want ([] : List (Fin (m + 1))) = 0 := rfl
theorem cntW_snoc {m : Nat} (F : Nat → Int) (want : Int) (pre : List (Fin (m + 1))) (x : Fin (m + 1)) : cntW F want (pre ++ [x]) = cntW F want pre + (if headN F x.val = want then 1 else 0) := by
  unfold cntW
  rw [List.countP_append, List.countP_singleton]
  by_cases h : headN F x.val = want <;> simp [h]
theorem cntW_le {m : Nat} (F : Nat → Int) (want : Int) (pre : List (Fin (m + 1))) : cntW F want pre ≤ pre.length := List.countP_le_length
theorem headN_at (t s l b : Nat) (k : Nat) (hk : k ≤ b) : headN (layF t s l b) k = if k = 0 then 32 else 39 + (k : Int) := by
  unfold headN bktN
  by_cases h : k = 0
  · rw [if_pos h, if_pos h]
    rfl
  · rw [if_neg h, if_neg h]
    show wordAt _ 40 1 b ((k : Int) - 1) 0 = _
    unfold wordAt
    rw [if_pos ⟨by omega, by omega⟩]
    omega
theorem bkt_at (t s l b : Nat) (n : Int) (h0 : 0 ≤ n) (h1 : n < b) : bktN (layF t s l b) n = 40 + n := by
  show wordAt _ 40 1 b n 0 = _
  unfold wordAt
  rw [if_pos ⟨h0, h1⟩]
  omega
theorem bkt_no (t s l b : Nat) : bktN (layF t s l b) (-1) = layF t s l b 4 * 8 := by
  show wordAt (layF t s l b 4) 40 1 b (-1) 0 = _
  unfold wordAt
  rw [if_neg (by omega)]
theorem far8 (t s l b : Nat) : 40 + (b : Int) ≤ layF t s l b 4 * 8 := by
  rw [last8 t s l b, NM.last_len t s l b]
  have h : 0 ≤ (l + 7) / 8 * t := Nat.zero_le _
  generalize (l + 7) / 8 * t = z at *
  omega
/-- A head is met where it stands, and nowhere else. -/
theorem cntW_take (t s l b : Nat) (want : Int) (k0 : Nat) (h : ∀ k, k ≤ b → (headN (layF t s l b) k = want ↔ k = k0)) (j : Nat) (hj : j ≤ b + 1) : cntW (layF t s l b) want ((List.finRange (b + 1)).take j) = if k0 < j then 1 else 0 := by
  induction j with
  | zero => simp [cntW]
  | succ j ih =>
    rw [finRange_take_moreH (b + 1) j (by omega), cntW_snoc, ih (by omega)]
    have h2 := h j (by omega)
    show (if k0 < j then 1 else 0) + (if headN (layF t s l b) j = want then 1 else 0) = _
    by_cases e : j = k0
    · rw [if_pos (h2.2 e), if_neg (by omega), if_pos (by omega)]
    · rw [if_neg (fun k => e (h2.1 k))]
      by_cases e2 : k0 < j
      · rw [if_pos e2, if_pos (by omega)]
      · rw [if_neg e2, if_neg (by omega)]
theorem cntW_all (t s l b : Nat) (want : Int) (k0 : Nat) (h : ∀ k, k ≤ b → (headN (layF t s l b) k = want ↔ k = k0)) : cntW (layF t s l b) want (List.finRange (b + 1)) = if k0 ≤ b then 1 else 0 := by
  have h1 := cntW_take t s l b want k0 h (b + 1) (Nat.le_refl _)
  rw [List.take_of_length_le (by simp)] at h1
  rw [h1]
  by_cases e : k0 ≤ b
  · rw [if_pos e, if_pos (by omega)]
  · rw [if_neg e, if_neg (by omega)]
/-- An operation's head is met once, if it has a key. -/
theorem cntW_head (t s l b : Nat) (hb : 1 ≤ b) (kd : Int) (x : Nat) : cntW (layF t s l b) (hdN (layF t s l b) b kd x) (List.finRange (b + 1)) = if 3 ≤ kd ∧ kd ≤ 8 then 1 else 0 := by
  unfold hdN
  by_cases k1 : 3 ≤ kd ∧ kd ≤ 5
  · rw [if_pos k1, if_pos (by omega), cntW_all t s l b _ 0 (fun k hk => by
      rw [headN_at t s l b k hk]
      show _ = (32 : Int) ↔ _
      split <;> omega), if_pos (by omega)]
  · rw [if_neg k1]
    by_cases k2 : 6 ≤ kd ∧ kd ≤ 8
    · have e2 : 0 ≤ (x : Int) % (b : Int) := Int.emod_nonneg _ (by omega)
      have e3 : (x : Int) % (b : Int) < (b : Int) := Int.emod_lt_of_pos _ (by omega)
      rw [if_pos k2, if_pos (by omega), bkt_at t s l b _ e2 e3]
      generalize (x : Int) % (b : Int) = r at *
      obtain ⟨r', rfl⟩ := Int.eq_ofNat_of_zero_le e2
      rw [cntW_all t s l b _ (r' + 1) (fun k hk => by
        rw [headN_at t s l b k hk]
        split <;> omega), if_pos (by omega)]
    · rw [if_neg k2, if_neg (by omega)]
      have hf := far8 t s l b
      rw [cntW_all t s l b _ (b + 1) (fun k hk => by
        rw [headN_at t s l b k hk]
        split <;> omega), if_neg (by omega)]
set_option maxRecDepth 100000 in
set_option maxHeartbeats 4000000 in
theorem head16_ok (t s l b gl : Nat) (hg : GrOk t s l b) (kd : Int) (a : Nat) (ha : a < 4294967296) (v : Int) (w : World) (hl : Blk w gl 71 (cellsF (layF t s l b))) :
    Calls Try.prog 17 #[.pointer (some ⟨gl, 0, none⟩), .agg #[.int .i64 kd, .int .u32 (a : Int), .int .u32 v]] w fun e w' => e = .returned (.int .i64 (hdN (layF t s l b) b kd (HM.mixN a))) ∧ Ext w w' := by
  obtain ⟨hc, h1, h2, h3, h4⟩ := id hg
  have hok := okayF hc
  obtain ⟨⟨q0, q1⟩, ⟨q2, q3⟩, ⟨q4, q5⟩, q6, q7⟩ := id hc
  have b1 : 1 ≤ b := by omega
  have b2 : b ≤ 1000 := by omega
  have X0 := Lib.hid ((Ext.refl w).alloc (.cells #[.int .i64 kd, .int .u32 (a : Int), .int .u32 v] 31))
  have hlt := Int.emod_lt_of_pos (HM.mixN a : Int) (show (0 : Int) < (b : Int) by omega)
  have HSe := Lib.hid (fun W (x : Ext w W) => nth_ok gl b (by omega) W (layF t s l b) hok rfl false 0 (by simp) (hl.ext x))
  have HBk : Hid (∀ W, Ext w W → Calls Try.prog 41 #[.pointer (some ⟨gl, 0, none⟩), .bool true, .int .i64 ((HM.mixN a : Int) % (b : Int))] W fun e w' => e = .returned (.int .i64 (bktN (layF t s l b) ((HM.mixN a : Int) % (b : Int)))) ∧ Ext W w') := Lib.hid (fun W x => by
    have e : (HM.mixN a : Int) % (b : Int) = ((HM.mixN a % b : Nat) : Int) := by rw [Int.natCast_emod]
    have h := nth_ok gl b (by omega) W (layF t s l b) hok rfl true (HM.mixN a % b) (by rw [if_pos rfl]; exact Nat.mod_lt _ (by omega)) (hl.ext x)
    rw [if_pos rfl] at h
    rw [e]
    exact h)
  have HBe := Lib.hid (fun W (x : Ext w W) => behind16_ok hok gl W (hl.ext x))
  have HCo : Hid (∀ W, Ext w W → Calls Try.prog 38 #[.pointer (some ⟨gl, 0, none⟩)] W fun e w' => e = .returned (.agg #[.int .i64 t, .int .i64 s, .int .i64 l, .int .i64 b]) ∧ Ext W w') := Lib.hid (fun W x => tConfig_any (some ⟨gl, 0, none⟩) (cellsF (layF t s l b)) t s l b W (Or.inl ⟨gl, rfl, hl.ext x⟩) (cellsF_at (layF t s l b) 0 (by omega)) (cellsF_at (layF t s l b) 1 (by omega)) (cellsF_at (layF t s l b) 2 (by omega)) (cellsF_at (layF t s l b) 3 (by omega)))
  have HBu := Lib.hid (fun W => bucket_yes a ha (b : Int) (by omega) (by omega) W)
  have hfl := fun W => fldC3 (t : Int) s l b W
  clear hl hg hc h1 h2 h3 h4 q0 q1 q2 q3 q4 q5 q6 q7 hok hlt
  generalize HM.mixN a = x at *
  by_cases k1 : 3 ≤ kd ∧ kd ≤ 5
  · have er : hdN (layF t s l b) b kd x = layF t s l b 8 := if_pos k1
    rw [er]
    clear er
    generalize layF t s l b = F at *
    have k2 : kd = 3 ∨ kd = 4 ∨ kd = 5 := by omega
    clear k1
    rcases k2 with rfl | rfl | rfl
    all_goals
      go_enter Try.func17, Try.ntmps17
      go_wp2_with fail
      refine (HSe.out _ X0.out).mono ?_
      rintro e w1 ⟨rfl, x1⟩
      have X1 := Lib.hid (X0.out.trans x1)
      clear x1
      simp only [if_false, Bool.false_eq_true]
      go_wp2_with fail
      go_ret
      exact ⟨rfl, X1.out⟩
  · by_cases k2 : 6 ≤ kd ∧ kd ≤ 8
    · have er : hdN (layF t s l b) b kd x = bktN (layF t s l b) ((x : Int) % (b : Int)) := by unfold hdN; rw [if_neg k1, if_pos k2]
      rw [er]
      clear er k1
      generalize layF t s l b = F at *
      have k3 : kd = 6 ∨ kd = 7 ∨ kd = 8 := by omega
      clear k2
      have BO := Blk.new w 31 [.int .i64 kd, .int .u32 (a : Int), .int .u32 v]
      have HP : Hid (∀ W, Ext (w.alloc (.cells #[.int .i64 kd, .int .u32 (a : Int), .int .u32 v] 31)) W → W.cell? ⟨w.heap.size, 1, none⟩ = some (.int .u32 (a : Int))) := Lib.hid (fun W x => (BO.ext x).cell 1)
      rcases k3 with rfl | rfl | rfl
      all_goals
        go_enter Try.func17, Try.ntmps17
        go_upto_region 9 with fail
        clear BO
        generalize w.alloc (.cells #[.int .i64 _, .int .u32 (a : Int), .int .u32 v] 31) = W2 at *
        have X := Lib.hid ((Ext.refl W2).drew)
        have y4 := HP.out W2 (Ext.refl _)
        go_region_held3 (fun W => W.cell? ⟨w.heap.size, 1, none⟩ = some (.int .u32 (a : Int))) (first | exact HP.out _ X.out | go_keep) (first
          | (go_at_call 38; refine (HCo.out _ (X0.out.trans X.out)).mono ?_; rintro e w1 ⟨rfl, x1⟩; replace X := Lib.hid (X.out.trans x1); clear x1)
          | (go_at_call 11; refine (HBu.out _).mono ?_; rintro e w' ⟨rfl, rfl⟩)
          | (go_at_call 41; refine (HBk.out _ (X0.out.trans X.out)).mono ?_; rintro e w2 ⟨rfl, x2⟩; replace X := Lib.hid (X.out.trans x2); clear x2))
        all_goals
          go_wp2_with fail
          go_ret
          exact ⟨rfl, X0.out.trans X.out⟩
    · have er : hdN (layF t s l b) b kd x = layF t s l b 4 * 8 := by unfold hdN; rw [if_neg k1, if_neg k2]
      rw [er]
      clear er
      generalize layF t s l b = F at *
      have n3 : (kd == 3) = false := by rw [beq_eq_false_iff_ne]; omega
      have n4 : (kd == 4) = false := by rw [beq_eq_false_iff_ne]; omega
      have n5 : (kd == 5) = false := by rw [beq_eq_false_iff_ne]; omega
      have n6 : (kd == 6) = false := by rw [beq_eq_false_iff_ne]; omega
      have n7 : (kd == 7) = false := by rw [beq_eq_false_iff_ne]; omega
      have n8 : (kd == 8) = false := by rw [beq_eq_false_iff_ne]; omega
      clear k1 k2
      go_enter Try.func17, Try.ntmps17
      go_wp2_with fail
      refine (HBe.out _ X0.out).mono ?_
      rintro e w1 ⟨rfl, x1⟩
      have X1 := Lib.hid (X0.out.trans x1)
      clear x1
      go_wp2_with fail
      go_ret
      exact ⟨rfl, X1.out⟩
end Go.Proofs.Ytfjfeomkmhbpbaa
