/- The document's device: Load, Store, and Do where it flushes, or refuses. Conditions: those that each theorem names. -/
import Derived.Test.YtlnaffedbcpkpaaRef4
import Derived.BigRegion
namespace Go.Proofs.Ytlnaffedbcpkpaa
open Go.ChangeShapes Go.WideShapes Go.ChangeAt Go.RowKit
set_option linter.unusedVariables false
section
variable {B : Nat} {w : World} {R : RefB} {s : DSt}
theorem RefAt.sh (h : RefAt B w R s) (n0 : 0 < s.n) (T0 : 0 < s.T) : ∃ gk ck gs cs gf cf, R.vk = .slice (some ⟨gk, 0, none⟩) (s.n * 8) ck ∧ R.vs = .slice (some ⟨gs, 0, none⟩) (s.n * 8) cs ∧ R.vf = .slice (some ⟨gf, 0, none⟩) s.T cf := by
  have := h.is.shape h.lk h.ls (by omega) (by rw [h.lr]; exact T0)
  rw [h.lr] at this
  exact this
theorem refLoad_ok (h : RefAt B w R s) (n0 : 0 < s.n) (n1 : s.n ≤ 262144) (a : Int) :
    Calls Try.prog 47 #[R.ptr, .int .i64 a] w fun e w' => e = .returned (.tuple #[.int .u64 (loadV s a), .int .i64 (wordE s a)]) ∧ w = w' := by
  obtain ⟨gs, cs, e2, _, _, hc⟩ := h.is.seen.at_ h.ls (by omega)
  have c1 : w.cell? ⟨R.g, 1, none⟩ = some R.vs := h.is.blk.cell 1
  rw [e2] at c1
  unfold RefB.ptr
  generalize R.g = g at *
  clear h
  by_cases ha : 0 ≤ a ∧ a < (s.n : Int) * 8
  · have E1 : loadV s a = s.seen.getD a.toNat 0 := by unfold loadV; rw [if_pos ha]
    have E2 : wordE s a = 0 := by unfold wordE; rw [if_pos ha]
    rw [E1, E2]
    obtain ⟨p, rfl⟩ := Int.eq_ofNat_of_zero_le ha.1
    have hp : p < s.n * 8 := by omega
    have hcp := hc p hp
    generalize s.n * 8 = L at *
    rw [Int.toNat_natCast]
    generalize s.seen.getD p 0 = x at *
    have u1 : ¬ (p : Int) < 0 := by omega
    have u2 : ¬ (L : Int) ≤ (p : Int) := by omega
    have u3 : decide (L ≤ p) = false := by simp; omega
    have u4 : (p : Int) < (L : Int) := by omega
    clear ha hc E1 E2
    go_enter Try.func47, Try.ntmps47
    go_wp2_with fail
    go_ret2
    exact ⟨rfl, rfl⟩
  · have E1 : loadV s a = 0 := by unfold loadV; rw [if_neg ha]
    have E2 : wordE s a = 5 := by unfold wordE; rw [if_neg ha]
    rw [E1, E2]
    clear hc E1 E2
    by_cases h0 : a < 0
    · go_enter Try.func47, Try.ntmps47
      go_wp2_with fail
      go_ret2
      exact ⟨rfl, rfl⟩
    · obtain ⟨p, rfl⟩ := Int.eq_ofNat_of_zero_le (show 0 ≤ a by omega)
      have u3 : decide (s.n * 8 ≤ p) = true := by simp; omega
      have u4 : ((s.n * 8 : Nat) : Int) ≤ (p : Int) := by omega
      have u5 : s.n * 8 ≤ 2097152 := by omega
      generalize s.n * 8 = L at *
      clear ha
      go_enter Try.func47, Try.ntmps47
      go_wp2_with fail
      go_ret2
      exact ⟨rfl, rfl⟩
theorem RefAt.store (h : RefAt B w R s) (n0 : 0 < s.n) {gs cs : Nat} (e : R.vs = .slice (some ⟨gs, 0, none⟩) (s.n * 8) cs) (p : Nat) (x : Int) :
    RefAt B (w.setCell ⟨gs, p, none⟩ (.int .u64 x)) R { s with seen := s.seen.set p x } ∧ Fr R.foot w (w.setCell ⟨gs, p, none⟩ (.int .u64 x)) := by
  obtain ⟨h1, f⟩ := h.is.setS e h.ls p x
  exact ⟨⟨h1, h.lr, h.lk, by simp only [List.length_set]; exact h.ls⟩, f⟩
theorem refStore_ok (h : RefAt B w R s) (n0 : 0 < s.n) (n1 : s.n ≤ 262144) (a x : Int) :
    Calls Try.prog 48 #[R.ptr, .int .i64 a, .int .u64 x] w fun e w' => e = .returned (.int .i64 (wordE s a)) ∧ RefAt B w' R (s.store a x) ∧ Fr R.foot w w' := by
  obtain ⟨gs, cs, e2, _, _, hc⟩ := h.is.seen.at_ h.ls (by omega)
  have c1 : w.cell? ⟨R.g, 1, none⟩ = some R.vs := h.is.blk.cell 1
  rw [e2] at c1
  unfold RefB.ptr
  have HR := Lib.hid h
  have H2 := Lib.hid e2
  generalize hg : R.g = g at *
  have HG := Lib.hid hg
  clear hg
  by_cases ha : 0 ≤ a ∧ a < (s.n : Int) * 8
  · have E1 : s.store a x = { s with seen := s.seen.set a.toNat x } := by unfold DSt.store; rw [if_pos ha]
    have E2 : wordE s a = 0 := by unfold wordE; rw [if_pos ha]
    rw [E1, E2]
    obtain ⟨p, rfl⟩ := Int.eq_ofNat_of_zero_le ha.1
    have hp : p < s.n * 8 := by omega
    have hcp := hc p hp
    have hfz : w.frozen? ⟨gs, p, none⟩ = false := by
      have h2 := RowN.of_row h.is.seen
      rw [e2, h.ls] at h2
      exact h2.frozen p
    rw [Int.toNat_natCast]
    have HS := Lib.hid (h.store n0 e2 p x)
    clear h e2
    have u1 : ¬ (p : Int) < 0 := by omega
    have u2 : ¬ ((s.n * 8 : Nat) : Int) ≤ (p : Int) := by omega
    have u3 : decide (s.n * 8 ≤ p) = false := by simp; omega
    have u4 : (p : Int) < ((s.n * 8 : Nat) : Int) := by omega
    have u5 : s.n * 8 ≤ 2097152 := by omega
    generalize s.n * 8 = L at *
    clear ha hc E1 E2
    go_enter Try.func48, Try.ntmps48
    go_wp2_with fail
    go_ret
    exact ⟨rfl, HS.out⟩
  · have E1 : s.store a x = s := by unfold DSt.store; rw [if_neg ha]
    have E2 : wordE s a = 5 := by unfold wordE; rw [if_neg ha]
    rw [E1, E2]
    clear hc E1 E2 h e2
    by_cases h0 : a < 0
    · go_enter Try.func48, Try.ntmps48
      go_wp2_with fail
      go_ret
      exact ⟨rfl, HR.out, Fr.refl _ _⟩
    · obtain ⟨p, rfl⟩ := Int.eq_ofNat_of_zero_le (show 0 ≤ a by omega)
      have u3 : decide (s.n * 8 ≤ p) = true := by simp; omega
      have u4 : ((s.n * 8 : Nat) : Int) ≤ (p : Int) := by omega
      have u5 : s.n * 8 ≤ 2097152 := by omega
      generalize s.n * 8 = L at *
      clear ha
      go_enter Try.func48, Try.ntmps48
      go_wp2_with fail
      go_ret
      exact ⟨rfl, HR.out, Fr.refl _ _⟩
set_option maxRecDepth 100000 in
set_option maxHeartbeats 2000000 in
theorem refDo_thread (h : RefAt B w R s) (n0 : 0 < s.n) (T0 : 0 < s.T) (T1 : s.T ≤ 64) (k t l : Int) (hk : k = 0 ∨ k = 1) (ht : ¬ (0 ≤ t ∧ t < (s.T : Int))) :
    Calls Try.prog 46 #[R.ptr, .int .i64 k, .int .i64 t, .int .i64 l] w fun e w' => e = .returned (.int .i64 1) ∧ w = w' := by
  obtain ⟨gk, ck, gs, cs, gf, cf, _, _, e3⟩ := h.sh n0 T0
  have c3 : w.cell? ⟨R.g, 3, none⟩ = some R.vf := h.is.blk.cell 3
  rw [e3] at c3
  unfold RefB.ptr
  generalize R.g = g at *
  clear h
  by_cases h0 : t < 0
  · rcases hk with rfl | rfl
    all_goals
      go_enter Try.func46, Try.ntmps46
      go_wp2_with fail
      go_ret
      exact ⟨rfl, rfl⟩
  · obtain ⟨p, rfl⟩ := Int.eq_ofNat_of_zero_le (show 0 ≤ t by omega)
    have u3 : decide (s.T ≤ p) = true := by simp; omega
    have u4 : (s.T : Int) ≤ (p : Int) := by omega
    generalize s.T = T at *
    clear ht
    rcases hk with rfl | rfl
    all_goals
      go_enter Try.func46, Try.ntmps46
      go_wp2_with fail
      go_ret
      exact ⟨rfl, rfl⟩
set_option maxRecDepth 100000 in
set_option maxHeartbeats 2000000 in
theorem refDo_line (h : RefAt B w R s) (n0 : 0 < s.n) (n1 : s.n ≤ 262144) (T0 : 0 < s.T) (T1 : s.T ≤ 64) (k t l : Int) (hk : k = 0 ∧ 0 ≤ t ∧ t < (s.T : Int) ∨ k = 2) (hl : ¬ (0 ≤ l ∧ l < (s.n : Int))) :
    Calls Try.prog 46 #[R.ptr, .int .i64 k, .int .i64 t, .int .i64 l] w fun e w' => e = .returned (.int .i64 5) ∧ w = w' := by
  obtain ⟨gk, ck, gs, cs, gf, cf, _, _, e3⟩ := h.sh n0 T0
  have c3 : w.cell? ⟨R.g, 3, none⟩ = some R.vf := h.is.blk.cell 3
  have c2 : w.cell? ⟨R.g, 2, none⟩ = some (.slice (some ⟨R.gw, 0, none⟩) s.n s.n) := h.is.blk.cell 2
  rw [e3] at c3
  unfold RefB.ptr
  generalize R.g = g at *
  clear h
  by_cases h0 : l < 0
  · rcases hk with ⟨rfl, ht0, ht1⟩ | rfl
    · obtain ⟨p, rfl⟩ := Int.eq_ofNat_of_zero_le ht0
      have u3 : decide (s.T ≤ p) = false := by simp; omega
      generalize s.T = T at *
      go_enter Try.func46, Try.ntmps46
      go_wp2_with fail
      go_ret
      exact ⟨rfl, rfl⟩
    · go_enter Try.func46, Try.ntmps46
      go_wp2_with fail
      go_ret
      exact ⟨rfl, rfl⟩
  · obtain ⟨q, rfl⟩ := Int.eq_ofNat_of_zero_le (show 0 ≤ l by omega)
    have u4 : decide (s.n ≤ q) = true := by simp; omega
    generalize s.n = n at *
    rcases hk with ⟨rfl, ht0, ht1⟩ | rfl
    · obtain ⟨p, rfl⟩ := Int.eq_ofNat_of_zero_le ht0
      have u3 : decide (s.T ≤ p) = false := by simp; omega
      generalize s.T = T at *
      clear hl
      go_enter Try.func46, Try.ntmps46
      go_wp2_with fail
      go_ret
      exact ⟨rfl, rfl⟩
    · clear hl
      go_enter Try.func46, Try.ntmps46
      go_wp2_with fail
      go_ret
      exact ⟨rfl, rfl⟩
set_option maxRecDepth 100000 in
set_option maxHeartbeats 2000000 in
theorem refDo_flush (h : RefAt B w R s) (n0 : 0 < s.n) (n1 : s.n ≤ 262144) (T0 : 0 < s.T) (T1 : s.T ≤ 64) (t l : Nat) (ht : t < s.T) (hl : l < s.n) :
    Calls Try.prog 46 #[R.ptr, .int .i64 0, .int .i64 (t : Int), .int .i64 (l : Int)] w fun e w' => e = .returned (.int .i64 0) ∧ IsRef B w' R s.n s.kept s.seen s.writes (fun a q => if a = t ∧ q = l then true else s.flag a q) ∧ Fr R.foot w w' := by
  obtain ⟨gk, ck, gs, cs, gf, cf, _, _, e3⟩ := h.sh n0 T0
  have e3' : R.vf = .slice (some ⟨gf, 0, none⟩) R.rows.length cf := by rw [h.lr]; exact e3
  have htr : t < R.rows.length := by rw [h.lr]; exact ht
  have c3 : w.cell? ⟨R.g, 3, none⟩ = some R.vf := h.is.blk.cell 3
  have c2 : w.cell? ⟨R.g, 2, none⟩ = some (.slice (some ⟨R.gw, 0, none⟩) s.n s.n) := h.is.blk.cell 2
  have cr := h.is.rowAt e3' t htr
  have cf' := (h.is.row t htr).frozen l
  have cc := h.is.flagAt t l htr hl
  have HF := Lib.hid (h.is.setF t l true htr)
  rw [e3] at c3
  unfold RefB.ptr
  generalize hgr : R.rows.getD t 0 = gr at *
  generalize R.gw = gw at *
  generalize R.g = g at c2 c3 ⊢
  clear h hgr e3 e3' htr
  have u3 : decide (s.T ≤ t) = false := by simp; omega
  have u4 : decide (s.n ≤ l) = false := by simp; omega
  have u5 : (l : Int) < (s.n : Int) := by omega
  have u6 : (t : Int) < (s.T : Int) := by omega
  generalize s.n = n at *
  generalize s.T = T at *
  go_enter Try.func46, Try.ntmps46
  go_wp2_with fail
  go_ret
  exact ⟨rfl, HF.out⟩
end
end Go.Proofs.Ytlnaffedbcpkpaa
