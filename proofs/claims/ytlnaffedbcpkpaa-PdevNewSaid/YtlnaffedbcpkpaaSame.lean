/- limekilnlaw04.same: a device and the document's that hold one state are the same. Conditions: those that each theorem names. -/
import Derived.Test.YtlnaffedbcpkpaaRef9
import Derived.Deep.RegionHeld3
import Derived.IntWalk
import Derived.BigQuiet
import Derived.Deep.QuietTactic
namespace Go.Proofs.Ytlnaffedbcpkpaa
open Go.ChangeShapes Go.WideShapes Go.ChangeAt Go.RowKit
set_option linter.unusedVariables false
/-- How many are below. -/
def below (l : List Int) (p : Int) : Nat := l.countP (fun y => decide (y < p))
theorem below_none (l : List Int) (p : Int) (h : ∀ y ∈ l, p ≤ y) : below l p = 0 := by
  unfold below
  rw [List.countP_eq_zero]
  intro y hy
  have := h y hy
  simp; omega
theorem below_has (p : Int) : ∀ l : List Int, l.Pairwise (· < ·) → p ∈ l → l[below l p]? = some p ∧ below l (p + 1) = below l p + 1 := by
  intro l
  induction l with
  | nil => intro _ h; cases h
  | cons x l ih =>
    intro hs hm
    obtain ⟨h1, h2⟩ := List.pairwise_cons.1 hs
    by_cases c : x = p
    · subst c
      have z1 : below (x :: l) x = 0 := below_none _ _ (fun y hy => by
        rcases List.mem_cons.1 hy with h | h
        · omega
        · have := h1 y h; omega)
      have z2 : below l (x + 1) = 0 := below_none _ _ (fun y hy => by have := h1 y hy; omega)
      rw [z1]
      refine ⟨rfl, ?_⟩
      unfold below at z2 ⊢
      rw [List.countP_cons_of_pos (by simp; omega), z2]
    · have hp : p ∈ l := by
        rcases List.mem_cons.1 hm with h | h
        · exact absurd h.symm c
        · exact h
      have hx := h1 p hp
      obtain ⟨i1, i2⟩ := ih h2 hp
      have z1 : below (x :: l) p = below l p + 1 := by unfold below; rw [List.countP_cons_of_pos (by simp; omega)]
      have z2 : below (x :: l) (p + 1) = below l (p + 1) + 1 := by unfold below; rw [List.countP_cons_of_pos (by simp; omega)]
      rw [z1, z2, i2]
      exact ⟨by simpa using i1, rfl⟩
theorem below_not (p : Int) (l : List Int) (h : p ∉ l) : below l (p + 1) = below l p := by
  unfold below
  apply List.countP_congr
  intro y hy
  have : y ≠ p := fun e => h (e ▸ hy)
  simp; omega
theorem below_all (l : List Int) (n : Int) (h : ∀ y ∈ l, y < n) : below l n = l.length := by
  unfold below
  rw [List.countP_eq_length]
  intro y hy
  have := h y hy
  simp; omega
section
variable {Q : Nat → Prop} {wb w0 w : World} {v : Value} {s : DSt}
theorem AtQ.linesW (h : AtQ Q wb w0 w v s) : Calls Try.prog 33 #[v] w fun e w' => e = .returned (.int .i64 (s.n : Int)) ∧ w = w' := by
  obtain ⟨D, rfl, h, _, _⟩ := h
  exact lines_ok _ _ _ _ h
theorem AtQ.writesW (h : AtQ Q wb w0 w v s) (p : Nat) (ha : p < s.n) : Calls Try.prog 41 #[v, .int .i64 (p : Int)] w fun e w' => e = .returned (.int .i64 (s.writes.getD p 0)) ∧ w = w' := by
  obtain ⟨D, rfl, h, ext, hQ⟩ := h
  refine (writes_ok _ _ _ _ h p ha).mono ?_
  rintro e w' ⟨he, rfl⟩
  exact ⟨he, rfl⟩
theorem AtQ.pendA (h : AtQ Q wb w0 w v s) (t : Nat) (ht : t < s.T) (hz : (s.fl.getD t []).length ≤ 1000000) :
    Calls Try.prog 50 #[v, .int .i64 (t : Int)] w (RowBack w 3 .i64 (s.fl.getD t [])) := by
  obtain ⟨D, rfl, h, ext, hQ⟩ := h
  exact pending_ok _ _ _ _ h t ht hz
theorem AtQ.sound (h : AtQ Q wb w0 w v s) : Sound s := by
  obtain ⟨D, rfl, h, ext, hQ⟩ := h
  exact ⟨h.n0, h.n1, h.T0, h.T1, h.lfl⟩
end
set_option maxRecDepth 100000 in
set_option maxHeartbeats 4000000 in
theorem same_ok {Q : Nat → Prop} {wb w0 w : World} {v : Value} {s : DSt} {B i : Nat} {R : RefB} (h : AtQ Q wb w0 w v s) (hr : RefAt B w R s) (hi : i ≤ 1000) (fine : Fine i s) :
    Calls Try.prog 15 #[v, R.ptr] w (fun e w' => e = .returned (.bool true) ∧ Ext w w') := by
  have ok := h.sound
  have n0 := ok.n0
  have n1 := ok.n1
  have T0 := ok.T0
  have T1 := ok.T1
  obtain ⟨gk, ck, gs, cs, gf, cf, e1, e2, e3⟩ := hr.sh ok.n0 ok.T0
  obtain ⟨n, hn⟩ : ∃ n, s.n = n := ⟨_, rfl⟩
  obtain ⟨T, hT⟩ : ∃ T, s.T = T := ⟨_, rfl⟩
  obtain ⟨L, hL⟩ : ∃ L, n * 8 = L := ⟨_, rfl⟩
  have HC0 : ∀ W, Ext w W → W.cell? ⟨R.g, 0, none⟩ = some (.slice (some ⟨gk, 0, none⟩) L ck) ∧ W.cell? ⟨R.g, 1, none⟩ = some (.slice (some ⟨gs, 0, none⟩) L cs) ∧ W.cell? ⟨R.g, 2, none⟩ = some (.slice (some ⟨R.gw, 0, none⟩) n n) ∧ W.cell? ⟨R.g, 3, none⟩ = some (.slice (some ⟨gf, 0, none⟩) T cf) := fun W x => by
    have hb := (hr.ext x).is.blk
    refine ⟨?_, ?_, ?_, ?_⟩
    · rw [← hL, ← hn, ← e1]; exact hb.cell 0
    · rw [← hL, ← hn, ← e2]; exact hb.cell 1
    · rw [← hn]; exact hb.cell 2
    · rw [← hT, ← e3]; exact hb.cell 3
  have HC := Lib.hid HC0
  have HI0 : ∀ W, Ext w W → Ints W .u64 (some ⟨gk, 0, none⟩) s.kept ∧ Ints W .u64 (some ⟨gs, 0, none⟩) s.seen := fun W x => by
    have hb := (hr.ext x).is
    obtain ⟨A, c, hv, hI, _⟩ := hb.kept.form
    obtain ⟨A', c', hv', hI', _⟩ := hb.seen.form
    rw [e1] at hv
    rw [e2] at hv'
    injection hv with q1
    injection hv' with q2
    rw [q1, q2]
    exact ⟨hI, hI'⟩
  have HI := Lib.hid HI0
  have HLk : Hid (s.kept.length = L) := Lib.hid (by rw [← hL, ← hn]; exact hr.lk)
  have HLs : Hid (s.seen.length = L) := Lib.hid (by rw [← hL, ← hn]; exact hr.ls)
  have HLi : Hid (∀ W, Ext w W → Calls Try.prog 33 #[v] W fun e w' => e = .returned (.int .i64 (n : Int)) ∧ W = w') := Lib.hid (fun W x => by rw [← hn]; exact (h.ext x).linesW)
  have HKp : Hid (∀ W, Ext w W → Calls Try.prog 49 #[v] W fun e w' => Words W L s.kept e w') := Lib.hid (fun W x => ((h.ext x).keptA L (by rw [hn]; exact hL)).mono fun e w' hh => hh.1)
  have HSn : Hid (∀ W, Ext w W → Calls Try.prog 31 #[v] W fun e w' => Words W L s.seen e w') := Lib.hid (fun W x => ((h.ext x).seenA L (by rw [hn]; exact hL)).mono fun e w' hh => hh.1)
  have HWr : Hid (∀ W, Ext w W → ∀ p : Nat, p < n → Calls Try.prog 41 #[v, .int .i64 (p : Int)] W fun e w' => e = .returned (.int .i64 (s.writes.getD p 0)) ∧ W = w') := Lib.hid (fun W x p hp => (h.ext x).writesW p (by rw [hn]; exact hp))
  have HPe : Hid (∀ W, Ext w W → ∀ t : Nat, t < T → Calls Try.prog 50 #[v, .int .i64 (t : Int)] W (RowBack W 3 .i64 (s.fl.getD t []))) := Lib.hid (fun W x t ht => (h.ext x).pendA t (by rw [hT]; exact ht) (by have := fine.len t; omega))
  have HRf := Lib.hid hr
  have HFi := Lib.hid fine
  have HE3 := Lib.hid e3
  have HN := Lib.hid hn
  have HT := Lib.hid hT
  have HL := Lib.hid hL
  rw [hn] at n0 n1
  rw [hT] at T0 T1
  have hL1 : L ≤ 2097152 := by omega
  clear h hr fine ok e1 e2 e3 HC0 HI0 hn hT hL
  unfold RefB.ptr
  obtain ⟨g, hg⟩ : ∃ g, R.g = g := ⟨_, rfl⟩
  obtain ⟨gw, hgw⟩ : ∃ gw, R.gw = gw := ⟨_, rfl⟩
  rw [hg, hgw] at HC
  rw [hg]
  have HGW := Lib.hid hgw
  have HG := Lib.hid hg
  clear hg hgw
  have xt : Ext w w.drew := (Ext.refl w).drew
  obtain ⟨c0, c1, c2, c3⟩ := HC.out w (Ext.refl w)
  go_enter Try.func15, Try.ntmps15
  go_wp2_with fail
  go_cut [37] (fun s37 wx => s37 = .bool false ∧ Ext w wx)
  case first =>
    go_region_held3 (fun W => W.cell? ⟨g, 0, none⟩ = some (.slice (some ⟨gk, 0, none⟩) L ck) ∧ W.cell? ⟨g, 1, none⟩ = some (.slice (some ⟨gs, 0, none⟩) L cs) ∧ W.cell? ⟨g, 2, none⟩ = some (.slice (some ⟨gw, 0, none⟩) n n)) (first | (have hk := HC.out _ xt; exact ⟨hk.1, hk.2.1, hk.2.2.1⟩) | go_keep) (first
      | (go_at_call 33; refine (HLi.out _ xt).mono ?_; rintro e w1 ⟨rfl, rfl⟩)
      | (go_at_call 49; refine (HKp.out _ xt).mono ?_; rintro e w12 ⟨g12, c12, rfl, k12, j12, I12, x12, l12, r12⟩; replace xt := xt.trans x12; have I12h := Lib.hid I12; clear I12 x12 l12 r12)
      | (go_at_call 31; refine (HSn.out _ xt).mono ?_; rintro e w10 ⟨g10, c10, rfl, k10, j10, I10, x10, l10, r10⟩; replace xt := xt.trans x10; have I10h := Lib.hid I10; clear I10 x10 l10 r10)
      | (go_at_call 29; refine (same_n _ _ L L _ _ s.kept s.kept true _ HLk.out HLk.out (by omega) (by simp) I12h.out (HI.out _ xt).1).mono ?_; rintro e w13 ⟨rfl, x13⟩; replace xt := xt.trans x13; try (replace I10h := Lib.hid (I10h.out.ext x13)); clear x13)
      | (go_at_call 29; refine (same_n _ _ L L _ _ s.seen s.seen true _ HLs.out HLs.out (by omega) (by simp) I10h.out (HI.out _ xt).2).mono ?_; rintro e w11 ⟨rfl, x11⟩; replace xt := xt.trans x11; try (replace I12h := Lib.hid (I12h.out.ext x11)); clear x11))
    all_goals
      go_wp2_with fail
      go_meet
      exact ⟨rfl, xt⟩
  case rest =>
    obtain ⟨rfl, x1⟩ := hcut
    clear c0 c1 c2 c3 xt HKp HSn HLi HI HLk HLs
    generalize wc = w1 at *
    have X1 := Lib.hid x1
    clear x1
    go_wp2_with fail
    go_loopw [5] (fun i wr => ∃ q : Nat, q ≤ n ∧ i = .int .i64 q ∧ Ext w wr) (fun i _ => n - (intOf i).toNat)
    case atStart => exact ⟨0, by omega, rfl, X1.out⟩
    case round =>
      clear X1
      obtain ⟨q, hq, rfl, xq⟩ := hrel
      obtain ⟨c0, c1, c2, c3⟩ := HC.out wr xq
      have XQ := Lib.hid xq
      clear xq c0 c1
      by_cases hlt : q < n
      · have v1 : decide (q < n) = true := by simp; omega
        have v2 : (q : Int) < (n : Int) := by omega
        have v3 : (0 : Int) ≤ (q : Int) := by omega
        have cw : wr.cell? ⟨gw, q, none⟩ = some (.int .i64 (s.writes.getD q 0)) := by
          have hh := (HRf.out.ext XQ.out).is
          have h2 := RowN.of_row hh.writes
          rw [hh.wlen, HGW.out, HN.out] at h2
          exact h2.cell (by omega)
        have HW1 := Lib.hid (fun (W : World) (x : Ext w W) => HWr.out W x q hlt)
        generalize s.writes.getD q 0 = x at cw HW1
        clear c3
        go_wp2_with fail
        go_region_held3 (fun W => W.cell? ⟨g, 2, none⟩ = some (.slice (some ⟨gw, 0, none⟩) n n) ∧ W.cell? ⟨gw, q, none⟩ = some (.int .i64 x)) (go_keep) (first
          | (go_at_call 41; refine (HW1.out _ (by first | exact XQ.out | exact XQ.out.drew)).mono ?_; rintro e w' ⟨rfl, rfl⟩))
        all_goals
          go_wp2_with fail
          go_roundw
          case rel => exact ⟨q + 1, by omega, by go_num, by first | exact XQ.out | exact XQ.out.drew⟩
          case measure => simp [intOf]; omega
      · have v1 : decide (q < n) = false := by simp; omega
        have v2 : ¬ (q : Int) < (n : Int) := by omega
        generalize wr = w2 at *
        go_wp2_with fail
        clear c2 c3
        go_loopw [6] (fun i wr => ∃ t : Nat, t ≤ T ∧ i = .int .i64 t ∧ Ext w wr) (fun i _ => T - (intOf i).toNat)
        case atStart => exact ⟨0, by omega, rfl, XQ.out⟩
        case round =>
          clear XQ
          obtain ⟨t, ht, rfl, xq⟩ := hrel
          obtain ⟨c0, c1, c2, c3⟩ := HC.out wr xq
          have XQ := Lib.hid xq
          clear xq c0 c1 c2
          by_cases hlt2 : t < T
          · have x1 : decide (t < T) = true := by simp; omega
            have x2 : (t : Int) < (T : Int) := by omega
            have HP := Lib.hid (HPe.out _ XQ.out t hlt2)
            have hsrt := HFi.out.srt t
            have hrng := HFi.out.rng t
            rw [HN.out] at hrng
            have hlen := HFi.out.len t
            have HFl : Hid (∀ p : Nat, (s.fl.getD t []).contains (p : Int) = s.flag t p) := Lib.hid (fun _ => rfl)
            generalize s.fl.getD t [] = ls at *
            have HS := Lib.hid hsrt
            have HR := Lib.hid hrng
            clear hsrt hrng
            go_wp2_with fail
            refine HP.out.mono ?_
            rintro e w3 ⟨u, rfl, hrow, x3⟩
            obtain ⟨A, c, rfl, hI, _⟩ := hrow.form
            have X3 := Lib.hid (XQ.out.trans x3)
            have I3 := Lib.hid hI
            clear hrow hI x3 HP c3
            obtain ⟨c0, c1, c2, c3⟩ := HC.out w3 X3.out
            clear c0 c1
            obtain ⟨len, hlen0⟩ : ∃ len, ls.length = len := ⟨_, rfl⟩
            have HLen := Lib.hid hlen0
            rw [hlen0] at hlen ⊢
            clear hlen0
            go_wp2_with fail
            go_loopw [8, 9] (fun k i wr => ∃ p : Nat, p ≤ n ∧ i = .int .i64 p ∧ k = .int .i64 (below ls p : Nat) ∧ wr = w3) (fun _ i _ => n - (intOf i).toNat)
            case atStart => exact ⟨0, by omega, rfl, by rw [show below ls ((0 : Nat) : Int) = 0 from below_none _ _ (fun y hy => (HR.out y hy).1)]; rfl, rfl⟩
            case round =>
              obtain ⟨p, hp, rfl, rfl, rfl⟩ := hrel
              by_cases hlt3 : p < n
              · have y1 : decide (p < n) = true := by simp; omega
                have y2 : (p : Int) < (n : Int) := by omega
                have hiss := (HRf.out.ext X3.out).is
                have htr : t < R.rows.length := by rw [HRf.out.lr, HT.out]; exact hlt2
                have r1 : wr.cell? ⟨gf, t, none⟩ = some (.slice (some ⟨R.rows.getD t 0, 0, none⟩) n n) := by
                  have := hiss.rowAt (by rw [HRf.out.lr]; exact HE3.out) t htr
                  rw [HN.out] at this
                  exact this
                have r2 := hiss.flagAt t p htr (by rw [HN.out]; exact hlt3)
                rw [← HFl.out p] at r2
                generalize R.rows.getD t 0 = gr at r1 r2
                clear hiss htr
                by_cases hm : (p : Int) ∈ ls
                · have hc : ls.contains (p : Int) = true := by simpa using hm
                  rw [hc] at r2
                  obtain ⟨z1, z2⟩ := below_has (p : Int) ls HS.out hm
                  obtain ⟨k, hk⟩ : ∃ k, below ls (p : Int) = k := ⟨_, rfl⟩
                  have hkl : k < len := by
                    rw [hk] at z1
                    have := (List.getElem?_eq_some_iff.1 z1).1
                    rw [HLen.out] at this
                    exact this
                  obtain ⟨ad, hA, _, hcell⟩ := I3.out (by rw [HLen.out]; omega)
                  have r3 := hcell k (by rw [HLen.out]; exact hkl)
                  rw [List.getD_eq_getElem?_getD, ← hk, z1, hk] at r3
                  subst hA
                  have Z2 := Lib.hid z2
                  have HK := Lib.hid hk
                  rw [hk]
                  have y3 : decide (len ≤ k) = false := by simp; omega
                  have y4 : (k : Int) < (len : Int) := by omega
                  have y5 : ¬ (len : Int) ≤ (k : Int) := by omega
                  clear z1 z2 hk hcell hc hm
                  go_wp2_with fail
                  go_roundw
                  case rel => exact ⟨p + 1, by omega, by go_num, by rw [show ((p + 1 : Nat) : Int) = (p : Int) + 1 by omega, Z2.out, HK.out]; go_num, by trivial⟩
                  case measure => simp [intOf]; omega
                · have hc : ls.contains (p : Int) = false := by simpa using hm
                  rw [hc] at r2
                  have Z2 := Lib.hid (below_not (p : Int) ls hm)
                  clear hc hm
                  generalize hk : below ls (p : Int) = k at *
                  go_wp2_with fail
                  go_roundw
                  case rel => exact ⟨p + 1, by omega, by go_num, by rw [show ((p + 1 : Nat) : Int) = (p : Int) + 1 by omega, Z2.out], by trivial⟩
                  case measure => simp [intOf]; omega
              · have y1 : decide (p < n) = false := by simp; omega
                have y2 : ¬ (p : Int) < (n : Int) := by omega
                obtain rfl : p = n := by omega
                rw [below_all ls _ (fun y hy => (HR.out y hy).2), HLen.out]
                have X4 := Lib.hid X3.out
                clear X3 c3 I3
                go_wp2_with fail
                go_roundw
                case rel => exact ⟨t + 1, by omega, by go_num, X4.out⟩
                case measure => simp [intOf]; omega
          · have x1 : decide (t < T) = false := by simp; omega
            have x2 : ¬ (t : Int) < (T : Int) := by omega
            go_wp2_with fail
            go_ret
            exact ⟨rfl, XQ.out⟩
section
variable {B i : Nat} {w w' : World} {R : RefB} {s : DSt}
/-- Nothing of it has turned. -/
theorem IsRef.heldQ {n : Nat} {kept seen writes : List Int} {fl : Nat → Nat → Bool} (h : IsRef B w R n kept seen writes fl) (hk : ∀ b, R.foot b → w'.heap[b]? = w.heap[b]?) : IsRef B w' R n kept seen writes fl where
  blk := (hk _ (Or.inl rfl)).trans h.blk
  kept := (RowN.kept (RowN.of_row h.kept) (fun b hb => hk b (Or.inr (Or.inl hb)))).row
  seen := (RowN.kept (RowN.of_row h.seen) (fun b hb => hk b (Or.inr (Or.inr (Or.inl hb))))).row
  writes := (RowN.kept (RowN.of_row h.writes) (fun b hb => hk b (Or.inr (Or.inr (Or.inr (Or.inl (by simpa [Value.ownBlock] using hb.symm))))))).row
  flr := h.flr.kept (fun b hb => hk b (Or.inr (Or.inr (Or.inr (Or.inr (Or.inl hb))))))
  row := fun t ht => (hk _ (Or.inr (Or.inr (Or.inr (Or.inr (Or.inr (rows_mem ht))))))).trans (h.row t ht)
  nd := h.nd
  ks := h.ks
  bg := h.bg
  br := h.br
theorem RefAt.heldQ (h : RefAt B w R s) (hk : ∀ b, R.foot b → w'.heap[b]? = w.heap[b]?) : RefAt B w' R s := ⟨h.is.heldQ hk, h.lr, h.lk, h.ls⟩
/-- The program's device behind what was done to the document's. -/
theorem AtQ.afterRef {w0 wb : World} {v : Value} (h : AtQ R.foot wb w0 w v s) (f : Fr R.foot w w') (hB : ∀ b, R.foot b → w0.heap.size ≤ b) : AtQ R.foot w' w0 w' v s :=
  h.turnM (S := R.foot) (f.ext h.held.1 hB) f (fun _ hg => hg) (fun g hg => ⟨Nat.lt_of_lt_of_le (h.held.2 g hg).1 f.size, Or.inl hg⟩)
end
set_option maxRecDepth 100000 in
set_option maxHeartbeats 2000000 in
theorem must_ok {B i : Nat} {w : World} {R : RefB} {s : DSt} (h : RefAt B w R s) (ok : Sound s) (hB : B ≤ w.heap.size) (hi : i ≤ 1000) (fine : Fine i s) (k t l a x : Int) :
    Calls Try.prog 14 #[R.ptr, .agg #[.int .i64 k, .int .i64 t, .int .i64 l, .int .i64 a, .int .u64 x]] w (fun e w' => e = .returned (.tuple #[.int .u64 (actV s k a), .int .i64 (actE s k t l a)]) ∧ RefAt B w' R (s.act k t l a x) ∧ Fr R.foot w w') := by
  have y0 := (Ext.refl w).alloc (.cells #[.int .i64 k, .int .i64 t, .int .i64 l, .int .i64 a, .int .u64 x] 36)
  have h1 := h.ext y0
  have H0 := Lib.hid (h1.flushR ok t l)
  have H1 := Lib.hid (h1.fenceR ok hi fine t l)
  have H2 := Lib.hid (h1.evictR ok hi fine t l)
  have H3 := Lib.hid (h1.crashR ok hi fine t l)
  have H4 := Lib.hid (refLoad_ok h1 ok.n0 ok.n1 a)
  have H5 := Lib.hid (refStore_ok h1 ok.n0 ok.n1 a x)
  have HR := Lib.hid h1
  have HY : Hid (Fr R.foot w (w.alloc (.cells #[.int .i64 k, .int .i64 t, .int .i64 l, .int .i64 a, .int .u64 x] 36))) := Lib.hid (Fr.of_ext y0)
  clear h h1 y0 fine
  by_cases c0 : k = 0
  · subst c0
    rw [show actV s 0 a = 0 from rfl, show actE s 0 t l a = flushE s t l from rfl, show s.act 0 t l a x = s.flush t l from rfl]
    go_enter Try.func14, Try.ntmps14
    go_wp2_with fail
    refine H0.out.mono ?_
    rintro e w' ⟨rfl, hr, hf⟩
    have HRR := Lib.hid hr
    have HFF := Lib.hid (HY.out.trans hf (fun g _ hg => hg))
    clear hr hf
    go_wp2_with fail
    go_ret2
    exact ⟨rfl, HRR.out, HFF.out⟩
  by_cases c1 : k = 1
  · subst c1
    rw [show actV s 1 a = 0 from rfl, show actE s 1 t l a = fenceE s t from rfl, show s.act 1 t l a x = s.fence t from rfl]
    go_enter Try.func14, Try.ntmps14
    go_wp2_with fail
    refine H1.out.mono ?_
    rintro e w' ⟨rfl, hr, hf⟩
    have HRR := Lib.hid hr
    have HFF := Lib.hid (HY.out.trans hf (fun g _ hg => hg))
    clear hr hf
    go_wp2_with fail
    go_ret2
    exact ⟨rfl, HRR.out, HFF.out⟩
  by_cases c2 : k = 2
  · subst c2
    rw [show actV s 2 a = 0 from rfl, show actE s 2 t l a = evictE s l from rfl, show s.act 2 t l a x = s.evict l from rfl]
    go_enter Try.func14, Try.ntmps14
    go_wp2_with fail
    refine H2.out.mono ?_
    rintro e w' ⟨rfl, hr, hf⟩
    have HRR := Lib.hid hr
    have HFF := Lib.hid (HY.out.trans hf (fun g _ hg => hg))
    clear hr hf
    go_wp2_with fail
    go_ret2
    exact ⟨rfl, HRR.out, HFF.out⟩
  by_cases c3 : k = 3
  · subst c3
    rw [show actV s 3 a = 0 from rfl, show actE s 3 t l a = 0 from rfl, show s.act 3 t l a x = s.crashed from rfl]
    go_enter Try.func14, Try.ntmps14
    go_wp2_with fail
    refine H3.out.mono ?_
    rintro e w' ⟨rfl, hr, hf⟩
    have HRR := Lib.hid hr
    have HFF := Lib.hid (HY.out.trans hf (fun g _ hg => hg))
    clear hr hf
    go_wp2_with fail
    go_ret2
    exact ⟨rfl, HRR.out, HFF.out⟩
  by_cases c4 : k = 4
  · subst c4
    rw [show actV s 4 a = loadV s a from rfl, show actE s 4 t l a = wordE s a from rfl, show s.act 4 t l a x = s from rfl]
    go_enter Try.func14, Try.ntmps14
    go_wp2_with fail
    refine H4.out.mono ?_
    rintro e w' ⟨rfl, rfl⟩
    go_wp2_with fail
    go_ret2
    exact ⟨rfl, HR.out, HY.out⟩
  have e1 : actV s k a = 0 := by unfold actV; rw [if_neg c4]
  have e2 : actE s k t l a = wordE s a := by unfold actE; rw [if_neg c0, if_neg c1, if_neg c2, if_neg c3]
  have e3 : s.act k t l a x = s.store a x := by unfold DSt.act; rw [if_neg c0, if_neg c1, if_neg c2, if_neg c3, if_neg c4]
  rw [e1, e2, e3]
  clear e1 e2 e3
  have t4 : decide (k = 4) = false := by simp [c4]
  by_cases hk : 0 ≤ k
  · have t5 : ¬ k ≤ 3 := by omega
    have t6 : decide (k ≤ 3) = false := by simp; omega
    have t7 : decide (0 ≤ k) = true := by simp; omega
    go_enter Try.func14, Try.ntmps14
    go_wp2_with fail
    refine H5.out.mono ?_
    rintro e w' ⟨rfl, hr, hf⟩
    have HRR := Lib.hid hr
    have HFF := Lib.hid (HY.out.trans hf (fun g _ hg => hg))
    clear hr hf
    go_wp2_with fail
    go_ret2
    exact ⟨rfl, HRR.out, HFF.out⟩
  · have t7 : decide (0 ≤ k) = false := by simp; omega
    go_enter Try.func14, Try.ntmps14
    go_wp2_with fail
    refine H5.out.mono ?_
    rintro e w' ⟨rfl, hr, hf⟩
    have HRR := Lib.hid hr
    have HFF := Lib.hid (HY.out.trans hf (fun g _ hg => hg))
    clear hr hf
    go_wp2_with fail
    go_ret2
    exact ⟨rfl, HRR.out, HFF.out⟩
end Go.Proofs.Ytlnaffedbcpkpaa
