/- Of Sets at one word, all from one link to unlike ones, just the first puts its own; when all are done that one is there, clean, and kept: the law answers true for every config and picks, and changes nothing. Conditions: none. -/
import Derived.Test.YtndplpfbohigpaaGreatWins1
import Derived.Deep.RegionHeld3
import Derived.Deep.DeepCutAuto
import Derived.Deep.CutBlock
import Derived.Deep.MidRow
import Derived.Test.YtndplpfbohigpaaGreatArgs
import Derived.Test.YtndplpfbohigpaaGreatKView
import Derived.Test.YtndplpfbohigpaaGreatLinkWinsFacts
namespace Go.Proofs.YtndplpfbohigpaaGreat
open Go.ChangeShapes Go.WideShapes Go.ChangeAt Go.RowKit
set_option linter.unusedVariables false

theorem ptrS_info : (Tryz.prog.info? 123).map (fun i => (i.zero, i.size, i.bytes)) = some (some (.pointer none), 1, 8) := by kernel_rfl
def wonZ : Option Nat → Int
  | none => -1
  | some j => j
def x0S : LsM := ⟨0, 0, false, false, 0⟩
theorem link_num (j : Nat) (h : j ≤ 1000) (W : World) : Calls Tryz.prog 89 #[.int .i64 j, .int .i64 (-1)] W fun e w' => e = .returned (.int .u64 (linkN j)) ∧ Ext W w' := (link_any j (-1) (by omega) (by omega) (by decide) (by decide) W).mono (fun e w' hh => by
  obtain ⟨e1, x⟩ := hh
  refine ⟨?_, x⟩
  rw [e1]
  have : ((j : Int) + 1) % 4294967296 + 4294967296 * ((-1 + 1) % 128) = linkN j := by unfold linkN; omega
  rw [this])
/-- How far each has come at least. -/
def PR (n k : Nat) (hs : List LsM) : Prop := ∀ (i : Nat) (x : LsM), hs[i]? = some x → ∀ r : Nat, r ≤ 4 → n + 5 * i + r ≤ k → (r : Int) ≤ rankS x
theorem PR.step {n k t : Nat} {hs : List LsM} (h : PR n k hs) (hp : ∀ (i : Nat) (x : LsM), hs[i]? = some x → x.part = 0 ∨ x.part = 1 ∨ x.part = 2 ∨ x.part = 3) {x : LsM} {s : MSt} (e : hs[t]? = some x) (ht : k < n ∨ t = (k - n) / 5) : PR n (k + 1) (hs.set t (setS t x s).1) := fun i z e' r hr hk => by
  have hlt : t < hs.length := (List.getElem?_eq_some_iff.1 e).1
  rw [set_get9 _ _ _ _ hlt] at e'
  have hq : (setS t x s).1.part = 0 ∨ (setS t x s).1.part = 1 ∨ (setS t x s).1.part = 2 ∨ (setS t x s).1.part = 3 := lsS_part (hp t x e)
  by_cases c : i = t
  · rw [if_pos c] at e'
    injection e' with e'
    subst c e'
    by_cases r0 : r = 0
    · subst r0
      exact (rank_le hq).1
    · have h1 := h i x e (r - 1) (by omega) (by omega)
      rcases rank_step i x s (hp i x e) with h2 | h2 <;> omega
  · rw [if_neg c] at e'
    by_cases r0 : r = 0
    · subst r0
      exact (rank_le (hp i z e')).1
    · exact h i z e' r hr (by omega)
theorem parts_step {hs : List LsM} {t : Nat} {x : LsM} {s : MSt} (hp : ∀ (i : Nat) (x : LsM), hs[i]? = some x → x.part = 0 ∨ x.part = 1 ∨ x.part = 2 ∨ x.part = 3) (e : hs[t]? = some x) : ∀ (i : Nat) (z : LsM), (hs.set t (setS t x s).1)[i]? = some z → z.part = 0 ∨ z.part = 1 ∨ z.part = 2 ∨ z.part = 3 := fun i z e' => by
  have hlt : t < hs.length := (List.getElem?_eq_some_iff.1 e).1
  rw [set_get9 _ _ _ _ hlt] at e'
  by_cases c : i = t
  · rw [if_pos c] at e'
    injection e' with e'
    subst e'
    exact lsS_part (hp t x e)
  · rw [if_neg c] at e'
    exact hp i z e'
/-- All that holds behind so many steps. -/
structure WinsAt (t s l b n k : Nat) (hs : List LsM) (won : Option Nat) (st : MSt) : Prop where
  wi : WI (2 + t + s) (wN t s l b) t hs won st
  pt : ∀ (i : Nat) (x : LsM), hs[i]? = some x → x.part = 0 ∨ x.part = 1 ∨ x.part = 2 ∨ x.part = 3
  fi : Fine k st.dev
  ca : CalmN (100 + (k : Int)) st
  pr : PR n k hs
theorem WinsAt.step {t s l b n k : Nat} {hs : List LsM} {won : Option Nat} {st : MSt} (h : WinsAt t s l b n k hs won st) (hN : 3 ≤ wN t s l b) (hN9 : wN t s l b ≤ 90) (hT : t ≤ 1000) {tt : Nat} {x : LsM} (e : hs[tt]? = some x) (ht : k < n ∨ tt = (k - n) / 5) :
    WinsAt t s l b n (k + 1) (hs.set tt (setS tt x st).1) (some (won.getD tt)) (setS tt x st).2 ∧ (setS tt x st).1.put = decide (won.getD tt = tt) := by
  obtain ⟨w1, w2⟩ := h.wi.step hN hT e
  refine ⟨⟨w1, parts_step h.pt e, lsS_fine9 h.fi (by rw [h.wi.ok.ok.n]; exact hN9), ?_, h.pr.step h.pt e ht⟩, w2⟩
  have := lsS_calm (t := (tt : Int)) (a := 20) (wd := soN (linkN tt)) (old := clN 0) (x := x) h.ca
  rw [show (100 : Int) + ((k + 1 : Nat) : Int) = 100 + (k : Int) + 1 by omega]
  exact this
theorem WinsAt.zero (t s l b n : Nat) : WinsAt t s l b n 0 (List.replicate t x0S) none (groundSt t s l b []) := by
  have hx : ∀ (i : Nat) (x : LsM), (List.replicate t x0S)[i]? = some x → x = x0S := fun i x e => by
    rw [List.getElem?_replicate] at e
    split at e
    · injection e with e; exact e.symm
    · cases e
  refine ⟨WI.zero, fun i x e => Or.inl (by rw [hx i x e]; rfl), ground_fine t s l b [], by simpa using ground_calm t s l b [] (by decide), fun i x e r hr hk => ?_⟩
  have : r = 0 := by omega
  subst this
  rw [hx i x e]
  decide
/-- When each has had its five steps. -/
theorem WinsAt.end {t s l b n : Nat} {hs : List LsM} {won : Option Nat} {st : MSt} (h : WinsAt t s l b n (n + 5 * t) hs won st) (ht : 0 < t) (hw : won ≠ none) : ∃ j, won = some j ∧ j < t ∧ peekV st 20 = linkN j ∧ keptV st 20 = soN (linkN j) ∧ ∀ (i : Nat) (x : LsM), hs[i]? = some x → x.dn = true ∧ x.put = decide (i = j) := by
  obtain ⟨j, rfl⟩ : ∃ j, won = some j := by
    cases won with
    | none => exact absurd rfl hw
    | some j => exact ⟨j, rfl⟩
  have hd : ∀ (i : Nat) (x : LsM), hs[i]? = some x → x.dn = true := fun i x e => by
    have hi : i < t := by rw [← h.wi.len]; exact (List.getElem?_eq_some_iff.1 e).1
    have h1 := h.pr i x e 4 (Nat.le_refl 4) (by omega)
    have h2 := (rank_le (h.pt i x e)).2
    exact rank_done (by omega) (h.pt i x e)
  obtain ⟨h1, h2, h3⟩ := h.wi.done hd
  exact ⟨j, rfl, (h.wi.yes j rfl).1, h1, h2, fun i x e => ⟨hd i x e, h3 i x e⟩⟩
set_option maxRecDepth 100000 in
set_option maxHeartbeats 16000000 in
theorem linkWins_yes (w : World) (A : Option Addr) (n c : Nat) (t s l b : Nat) (zs : List Int) (hl : zs.length = n) (hn : n ≤ 300) (hA : Ints w .u8 A zs) (hz : Lim zs 256) (hg : GrOk t s l b) :
    Calls Tryz.prog 14 #[.agg #[.int .i64 t, .int .i64 s, .int .i64 l, .int .i64 b], .slice A n c] w fun e w' => e = .returned (.bool true) ∧ Ext w w' := by
  have X0 := Lib.hid ((Ext.refl w).alloc (.cells #[.int .i64 t, .int .i64 s, .int .i64 l, .int .i64 b] 23))
  have B0 := Lib.hid (Blk.new w 23 [.int .i64 t, .int .i64 s, .int .i64 l, .int .i64 b])
  have HY := Lib.hid (fun W => few9_yes t s l b W hg)
  have HI := Lib.hid hA
  have HZ := Lib.hid hz
  have HL := Lib.hid hl
  have HLa : Hid (∀ W, Calls Tryz.prog 18 #[.agg #[.int .i64 t, .int .i64 s, .int .i64 l, .int .i64 b, .slice none 0 0]] W (GrNew W t s l b [])) := Lib.hid (fun W => lay_ok W none 0 0 t s l b [] hg rfl (by decide) (fun h => absurd h (by decide)))
  have HW0 := Lib.hid (WinsAt.zero t s l b n)
  obtain ⟨hc, h1, h2, h3, h4⟩ := id hg
  obtain ⟨⟨q0, q1⟩, ⟨q2, q3⟩, ⟨q4, q5⟩, q6, q7⟩ := id hc
  have t1 : 1 ≤ t := by omega
  have t6 : t ≤ 6 := by omega
  have hN3 : 3 ≤ wN t s l b := by unfold wN; omega
  have hN9 : wN t s l b ≤ 90 := by have := wN_le (t := t) (s := s) (l := l) (b := b) (by omega) (by omega) (by omega) (by omega); omega
  have HN := Lib.hid (And.intro hN3 hN9)
  have HLk := Lib.hid (fun (j : Nat) (h : j ≤ 1000) W => link_num j h W)
  have d300 : decide (300 < n) = false := by simp; omega
  have d300' : decide ((300 : Int) < (n : Int)) = false := by simp; omega
  clear hA hz hl hg hc h1 h2 h3 h4 q0 q1 q2 q3 q4 q5 q6 q7 hN3 hN9
  go_enter Tryz.func14, Tryz.ntmps14
  go_upto_region 1 with fail
  generalize w.alloc (.cells #[.int .i64 t, .int .i64 s, .int .i64 l, .int .i64 b] 23) = W0 at *
  have y0 : W0.cell? ⟨w.heap.size, 0, none⟩ = some (.int .i64 t) := B0.out.cell 0
  have y1 : W0.cell? ⟨w.heap.size, 1, none⟩ = some (.int .i64 s) := B0.out.cell 1
  have y2 : W0.cell? ⟨w.heap.size, 2, none⟩ = some (.int .i64 l) := B0.out.cell 2
  have y3 : W0.cell? ⟨w.heap.size, 3, none⟩ = some (.int .i64 b) := B0.out.cell 3
  go_wp2_with fail
  refine (HY.out _).mono ?_
  rintro e w1 ⟨rfl, x1⟩
  have X1 := Lib.hid (X0.out.trans x1)
  have B1 := Lib.hid (B0.out.ext x1)
  clear x1 y0 y1 y2 y3 X0 B0 HY
  have y0 : w1.cell? ⟨w.heap.size, 0, none⟩ = some (.int .i64 t) := B1.out.cell 0
  have y1 : w1.cell? ⟨w.heap.size, 1, none⟩ = some (.int .i64 s) := B1.out.cell 1
  have y2 : w1.cell? ⟨w.heap.size, 2, none⟩ = some (.int .i64 l) := B1.out.cell 2
  have y3 : w1.cell? ⟨w.heap.size, 3, none⟩ = some (.int .i64 b) := B1.out.cell 3
  go_upto_region 3 with fail
  clear d300 d300'
  go_wp2_with fail
  refine (HLa.out _).mono ?_
  rintro e w3 ⟨gl, gm, dv, pv, g, R, rv, rfl, bl, gr⟩
  have B3 := Lib.hid (B1.out.ext gr.mem.lt.1)
  have S3 : Hid (SetsAt w1 w3 gm dv pv (.slice none 0 0) (fun _ => 0) 0 [] (groundSt t s l b [])) := Lib.hid ⟨gr.mem.hold (Ext.refl _) (fun q hq => by
    rcases hq with hq | ⟨i, hi, _⟩
    · cases hq
    · omega), World.ownsRow_nil _ _ _ _, fun i x e => by simp at e, fun i j hi => by omega, rfl⟩
  generalize groundSt t s l b [] = st at *
  clear bl gr HLa y0 y1 y2 y3
  have y0 : w3.cell? ⟨w.heap.size, 0, none⟩ = some (.int .i64 t) := B3.out.cell 0
  have y1 : w3.cell? ⟨w.heap.size, 1, none⟩ = some (.int .i64 s) := B3.out.cell 1
  have y2 : w3.cell? ⟨w.heap.size, 2, none⟩ = some (.int .i64 l) := B3.out.cell 2
  have y3 : w3.cell? ⟨w.heap.size, 3, none⟩ = some (.int .i64 b) := B3.out.cell 3
  go_upto_block 0 with fail
  go_cut [9] (fun s9 wx => ∃ gs, SetsAt w1 wx gm dv pv s9 gs t (List.replicate t x0S) st)
  case first =>
    go_wp2_with fail
    go_loopw [9, 10] (fun v i wr => ∃ (k : Nat) (gs : Nat → Nat) (vv : Value), k ≤ t ∧ i = .int .i64 k ∧ vv = v ∧ SetsAt w1 wr gm dv pv vv gs k (List.replicate k x0S) st) (fun _ i _ => t - (intOf i).toNat)
    case atStart => exact ⟨0, _, _, Nat.zero_le _, rfl, rfl, S3.out⟩
    case round =>
      obtain ⟨k, gs, vv, hk, rfl, rfl, hs⟩ := hrel
      have HS := Lib.hid hs
      have BK := Lib.hid (B1.out.ext hs.m.lt.1)
      clear hs S3
      have y0 : wr.cell? ⟨w.heap.size, 0, none⟩ = some (.int .i64 t) := BK.out.cell 0
      have y1 : wr.cell? ⟨w.heap.size, 1, none⟩ = some (.int .i64 s) := BK.out.cell 1
      have y2 : wr.cell? ⟨w.heap.size, 2, none⟩ = some (.int .i64 l) := BK.out.cell 2
      have y3 : wr.cell? ⟨w.heap.size, 3, none⟩ = some (.int .i64 b) := BK.out.cell 3
      by_cases hlt : k < t
      · have d1 : decide ((k : Int) < (t : Int)) = true := by simp; omega
        have d1' : decide (k < t) = true := by simp; omega
        have HLk1 := Lib.hid (fun W => HLk.out k (by omega) W)
        have hwl : W64 (linkN k) := by unfold linkN; exact ⟨by omega, by omega⟩
        have HNe := Lib.hid (fun W => newSet_ok W (k : Int) 20 0 (linkN k) ⟨by decide, by decide⟩ hwl)
        have HXw := Lib.hid HS.out.m.lt.1
        have hk9 : k < 1000000000 := by omega
        clear hwl
        obtain ⟨lk, hlk⟩ : ∃ lk, linkN k = lk := ⟨_, rfl⟩
        rw [hlk] at HLk1 HNe
        have HLkE := Lib.hid hlk
        clear hlk
        go_wp2_with fail
        refine (HLk1.out _).mono ?_
        rintro e wb ⟨rfl, xb⟩
        have XB := Lib.hid xb
        clear xb y0 y1 y2 y3
        go_wp2_with fail
        refine (HNe.out _).mono ?_
        rintro e wa ⟨gp, rfl, lp, bp, xa⟩
        have XA := Lib.hid (XB.out.trans xa)
        have BP := Lib.hid bp
        have LP := Lib.hid (Nat.le_trans XB.out.size lp)
        have EX := Lib.hid (HXw.out.trans XA.out)
        clear lp bp xa
        go_wp2_with ((at_builtin; refine Hid.out ?_))
        refine Lib.hid ?_
        refine wpList_pushPtr rfl _ _ 143 rfl 123 ptrS_info Tryz.underlying143 w1 wa vv k (ptrsS gs k) (some ⟨gp, 0, none⟩) (by rfl) (HS.out.ext XA.out).row EX.out (by rfl) hk9 ?_
        intro v' w5 h1 h2 h3 h4 h5
        have S5 := Lib.hid (HS.out.push (y := x0S) XA.out LP.out (by rw [HLkE.out]; exact BP.out) h1 h3 h4 h5)
        rw [← List.replicate_succ'] at S5
        clear h1 h2 h3 h4 h5
        go_wp2_with fail
        go_roundw
        case rel => exact ⟨k + 1, _, v', by omega, by go_num, rfl, S5.out⟩
        case measure => simp [intOf]; omega
      · obtain rfl : k = t := by omega
        have d1 : decide ((k : Int) < (k : Int)) = false := by simp
        have d1' : decide (k < k) = false := by simp
        go_wp2_with fail
        go_meet
        exact ⟨gs, HS.out⟩
  case rest =>
    obtain ⟨gs, hs⟩ := hcut
    obtain ⟨gh, ch, hv⟩ := hs.form (by omega)
    subst hv
    generalize wc = w4 at *
    have S4 := Lib.hid hs
    clear hs S3 B3 y0 y1 y2 y3
    go_upto_block 2 with fail
    go_wp2_with fail
    go_loopw [11, 12] (fun wo i wr => ∃ (k : Nat) (hs : List LsM) (won : Option Nat) (sk : MSt), k ≤ n + 5 * t ∧ i = .int .i64 k ∧ wo = .int .i64 (wonZ won) ∧ (won = none → k = 0) ∧ SetsAt w1 wr gm dv pv (.slice (some ⟨gh, 0, none⟩) t ch) gs t hs sk ∧ WinsAt t s l b n k hs won sk) (fun _ i _ => n + 5 * t - (intOf i).toNat)
    case atStart => exact ⟨0, _, none, st, Nat.zero_le _, rfl, rfl, fun _ => rfl, S4.out, HW0.out⟩
    case round =>
      obtain ⟨k, hs, won, sk, hk, rfl, rfl, hnone, ha, hi⟩ := hrel
      have HA := Lib.hid ha
      have HIn := Lib.hid hi
      have XK := Lib.hid (X1.out.trans ha.m.lt.1)
      have HNo := Lib.hid hnone
      clear ha hi hnone S4 HW0
      obtain ⟨F5, hF5⟩ : ∃ F5 : Nat, F5 = 5 * t := ⟨_, rfl⟩
      obtain ⟨M, hM⟩ : ∃ M : Nat, M = n + F5 := ⟨_, rfl⟩
      have e5 : (5 : Int) * (t : Int) = (F5 : Int) := by omega
      have w5 : IntKind.i64.wrap ((5 : Int) * (t : Int)) = (F5 : Int) := by rw [e5]; exact i64w _ (by omega) (by omega)
      have wM : IntKind.i64.wrap ((n : Int) + (F5 : Int)) = (M : Int) := by rw [show (n : Int) + (F5 : Int) = (M : Int) by omega]; exact i64w _ (by omega) (by omega)
      by_cases hlt : k < M
      · have v1 : decide ((k : Int) < (M : Int)) = true := by simp; omega
        have v2 : decide (k < M) = true := by simp; omega
        obtain ⟨dk, hdk⟩ : ∃ dk, (k : Int) - (n : Int) = dk := ⟨_, rfl⟩
        have wdk : IntKind.i64.wrap ((k : Int) - (n : Int)) = dk := by rw [hdk]; exact i64w _ (by omega) (by omega)
        obtain ⟨qk, hqk⟩ : ∃ qk, dk.tdiv 5 = qk := ⟨_, rfl⟩
        have hqr : -400 ≤ qk ∧ qk ≤ 400 := by
          rw [← hqk]
          by_cases c : 0 ≤ dk
          · rw [Int.tdiv_eq_ediv_of_nonneg c]
            omega
          · obtain ⟨m, rfl⟩ : ∃ m, dk = -m := ⟨-dk, by omega⟩
            rw [Int.neg_tdiv, Int.tdiv_eq_ediv_of_nonneg (by omega)]
            omega
        have wqk : IntKind.i64.wrap (dk.tdiv 5) = qk := by rw [hqk]; exact i64w _ (by omega) (by omega)
        have HT : Hid (∃ tt : Nat, tt < t ∧ (k < n ∧ tt = ((zs.getD k 0).toNat) % t ∨ n ≤ k ∧ qk = (tt : Int) ∧ tt = (k - n) / 5)) := Lib.hid (by
          by_cases c : k < n
          · exact ⟨((zs.getD k 0).toNat) % t, Nat.mod_lt _ (by omega), Or.inl ⟨c, rfl⟩⟩
          · refine ⟨(k - n) / 5, by omega, Or.inr ⟨by omega, ?_, rfl⟩⟩
            rw [← hqk, Int.tdiv_eq_ediv_of_nonneg (by omega)]
            omega)
        obtain ⟨tt, htl, htt⟩ := HT.out
        have HTT : Hid (k < n ∨ tt = (k - n) / 5) := Lib.hid (by rcases htt with ⟨c, _⟩ | ⟨_, _, c⟩; exact Or.inl c; exact Or.inr c)
        have HKM := Lib.hid (And.intro hlt (And.intro hF5 hM))
        clear hqr hdk hqk e5 HT hF5 hM
        go_upto_if 66 with fail
        go_cut [13] (fun s13 wx => s13 = .int .i64 (tt : Int) ∧ wx = wr)
        case first =>
          by_cases hkn : k < n
          · have z1 : decide ((k : Int) < (n : Int)) = true := by simp; omega
            have z2 : decide (k < n) = true := by simp; omega
            obtain ⟨ad, hAd, _, hcc⟩ := (HI.out.ext XK.out) (by have := HL.out; omega)
            have p0 := hcc k (by have := HL.out; omega)
            have zr := HZ.out k (by have := HL.out; omega)
            have htt2 : tt = ((zs.getD k 0).toNat) % t := by rcases htt with ⟨_, c⟩ | ⟨c, _⟩; exact c; omega
            generalize zs.getD k 0 = z at *
            obtain ⟨zn, rfl⟩ := Int.eq_ofNat_of_zero_le zr.1
            subst hAd
            have hm0 : ((zn : Int)).tmod (t : Int) = (tt : Int) := by
              rw [Int.tmod_eq_emod_of_nonneg (by omega), htt2]
              rfl
            have ht0 : ((t : Int) == 0) = false := by rw [beq_eq_false_iff_ne]; omega
            have ht0' : ¬ (t : Int) = 0 := by omega
            clear hcc htt2 htt
            go_wp2_with fail
            go_meet
            exact ⟨rfl, rfl⟩
          · have z1 : decide ((k : Int) < (n : Int)) = false := by simp; omega
            have z2 : decide (k < n) = false := by simp; omega
            have hq2 : qk = (tt : Int) := by rcases htt with ⟨c, _⟩ | ⟨_, c, _⟩; omega; exact c
            subst hq2
            go_wp2_with fail
            go_meet
            exact ⟨rfl, rfl⟩
        case rest =>
          obtain ⟨rfl, rfl⟩ := hcut
          clear htt w5 wM v1 v2 wdk wqk
          obtain ⟨x, hx⟩ : ∃ x, hs[tt]? = some x := ⟨_, List.getElem?_eq_getElem (by rw [HA.out.len]; exact htl)⟩
          have hcell := HA.out.cell htl
          have d3 : decide ((tt : Int) < (t : Int)) = true := by simp; omega
          have d3' : decide (tt < t) = true := by simp; omega
          have hax := HA.out.a tt x hx
          have hst := lsStep_ok (i := k) HA.out.m (HIn.out.ca.calm (by omega)) (by omega) HIn.out.fi ⟨by decide, by decide⟩ (HIn.out.pt tt x hx) (soN_rng (linkN tt)) hax.1 (Or.inr ⟨tt, htl, rfl⟩) hax.2.2
          have hws := HIn.out.step HN.out.1 HN.out.2 (by omega) hx HTT.out
          have es : lsS (tt : Int) 20 (soN (linkN tt)) (clN 0) x sk = setS tt x sk := rfl
          rw [es] at hst
          have HX := Lib.hid hx
          have HSt := Lib.hid hst
          have HWs := Lib.hid hws
          have HPt := Lib.hid (HIn.out.pt tt x hx)
          clear hx hax hst hws es
          generalize setS tt x sk = r at *
          obtain ⟨y, s'⟩ := r
          unfold ptrS at hcell
          go_wp2_with fail
          refine HSt.out.mono ?_
          rintro e w5 ⟨rfl, m5, b5, k5⟩
          have A5 := Lib.hid (HA.out.step HX.out m5 b5 k5)
          have hcell5 := A5.out.cell htl
          unfold ptrS at hcell5
          have HPu := Lib.hid (lsPut_ok w5 (gs tt) y.put (b5.cell 7))
          obtain ⟨pb, hpb⟩ : ∃ pb, y.put = pb := ⟨_, rfl⟩
          rw [hpb] at HPu
          have hwp : pb = decide (won.getD tt = tt) := by rw [← hpb]; exact HWs.out.2
          have HWw := Lib.hid HWs.out.1
          clear m5 b5 k5 HSt hpb hcell
          have hkM := HKM.out.1
          have wk1 : k + 1 ≤ n + 5 * t := by have := HKM.out; omega
          cases won with
          | none =>
            have hwp2 : pb = true := by rw [hwp]; exact decide_eq_true rfl
            subst hwp2
            clear hwp
            have dm : ((-1 : Int) == -1) = true := rfl
            unfold wonZ
            go_wp2_with fail
            refine HPu.out.mono ?_
            rintro e w' ⟨rfl, rfl⟩
            go_wp2_with fail
            go_roundw
            case rel => exact ⟨k + 1, _, some tt, s', wk1, by go_num, rfl, (fun h => absurd h (by simp)), A5.out, HWw.out⟩
            case measure => simp [intOf]; omega
          | some j =>
            clear hwp
            have dm : (((j : Nat) : Int) == -1) = false := by rw [beq_eq_false_iff_ne]; omega
            unfold wonZ
            go_wp2_with fail
            refine HPu.out.mono ?_
            rintro e w' ⟨rfl, rfl⟩
            cases pb
            all_goals
              go_wp2_with fail
              go_roundw
              case rel => exact ⟨k + 1, _, some j, s', wk1, by go_num, rfl, (fun h => absurd h (by simp)), A5.out, HWw.out⟩
              case measure => simp [intOf]; omega
      · have v1 : decide ((k : Int) < (M : Int)) = false := by simp; omega
        have v2 : decide (k < M) = false := by simp; omega
        have hkk : k = n + 5 * t := by omega
        have hwn : won ≠ none := fun c => by have := HNo.out c; omega
        obtain ⟨j, rfl, hj, e1, e2, e3⟩ := (show WinsAt t s l b n (n + 5 * t) hs won sk from hkk ▸ HIn.out).end (by omega) hwn
        have HE3 := Lib.hid e3
        have HOk := Lib.hid HIn.out.wi.ok
        have hpk := HA.out.m.peek 20 (by decide) (by decide)
        rw [e1, show peekB sk 20 = true from HOk.out.ok.is (by omega) (by have := HN.out.1; omega)] at hpk
        have HPk := Lib.hid hpk
        have HDe := Lib.hid (memDevice_ok HA.out.m)
        obtain ⟨NN, hNN⟩ : ∃ NN, wN t s l b * 8 = NN := ⟨_, rfl⟩
        have hn20 : 20 < NN := by have := HN.out.1; omega
        have HKp := Lib.hid (HA.out.m.dev.keptA NN (by rw [HOk.out.ok.n]; exact hNN))
        have HKl : Hid (sk.dev.kept.length = NN) := Lib.hid (by rw [HOk.out.k]; exact hNN)
        have HKv : Hid (sk.dev.kept.getD 20 0 = soN (linkN j)) := Lib.hid e2
        have HLj := Lib.hid (fun W => HLk.out j (by omega) W)
        have HCj : Hid (∀ W, Calls Tryz.prog 85 #[.int .u64 (soN (linkN j))] W fun e w' => e = .returned (.int .u64 (linkN j)) ∧ Ext W w') := Lib.hid (fun W => (rclean_any (soN (linkN j)) (soN_rng _).1 (soN_rng _).2 W).mono (fun e w' h => by
          have hc : soN (linkN j) % 9223372036854775808 = linkN j := by
            have := clN_so (linkN j)
            rw [linkN_cl (by omega)] at this
            exact this
          rw [hc] at h
          exact h))
        obtain ⟨lj, hlj⟩ : ∃ lj, linkN j = lj := ⟨_, rfl⟩
        obtain ⟨sj, hsj⟩ : ∃ sj, soN (linkN j) = sj := ⟨_, rfl⟩
        rw [hsj] at HCj HKv
        rw [hlj] at HPk HLj HCj
        clear e1 e2 e3 hpk hlj hsj hwn hNN HNo HIn hkk hF5 hM
        unfold wonZ
        generalize wr = w6 at *
        go_wp2_with fail
        refine HPk.out.mono ?_
        rintro e w' ⟨rfl, rfl⟩
        clear w5 wM v1 v2
        go_wp2_with fail
        refine HDe.out.mono ?_
        rintro e w' ⟨rfl, rfl⟩
        go_wp2_with fail
        refine HKp.out.mono ?_
        rintro e w7 ⟨hwd, -⟩
        obtain ⟨gk, ck, rfl, -, -, hIk, xk, -, -⟩ := hwd
        have HIk := Lib.hid hIk
        have X7 := Lib.hid (XK.out.trans xk)
        have A7 := Lib.hid (HA.out.ext xk)
        clear hIk xk HPk HDe HKp HA XK
        go_wp2_with fail
        go_loopw [17] (fun i wr => ∃ k : Nat, k ≤ t ∧ i = .int .i64 k ∧ Ext w7 wr) (fun i _ => t - (intOf i).toNat)
        case atStart => exact ⟨0, Nat.zero_le _, rfl, Ext.refl _⟩
        case round =>
          obtain ⟨k, hk, rfl, xr⟩ := hrel
          have XR := Lib.hid xr
          have A8 := Lib.hid (A7.out.ext xr)
          clear xr
          by_cases hlt : k < t
          · have d1 : decide ((k : Int) < (t : Int)) = true := by simp; omega
            have d1' : decide (k < t) = true := by simp; omega
            obtain ⟨x, hx⟩ : ∃ x, hs[k]? = some x := ⟨_, List.getElem?_eq_getElem (by rw [A8.out.len]; exact hlt)⟩
            have hcell := A8.out.cell hlt
            unfold ptrS at hcell
            have hbk := (A8.out.a k x hx).1
            obtain ⟨x1, x2⟩ := HE3.out k x hx
            have HDo := Lib.hid (lsDone_ok wr (gs k) true (by rw [← x1]; exact hbk.cell 5))
            obtain ⟨pb, hpb⟩ : ∃ pb, decide (k = j) = pb := ⟨_, rfl⟩
            rw [hpb] at x2
            have HPu := Lib.hid (lsPut_ok wr (gs k) pb (by rw [← x2]; exact hbk.cell 7))
            have de : ((k : Int) == (j : Int)) = pb := by
              rw [← hpb, Bool.eq_iff_iff]
              simp
              omega
            have dpp : (pb != pb) = false := by cases pb <;> rfl
            clear hx hbk x1 x2 hpb
            go_wp2_with fail
            refine HDo.out.mono ?_
            rintro e w' ⟨rfl, rfl⟩
            go_wp2_with fail
            refine HPu.out.mono ?_
            rintro e w' ⟨rfl, rfl⟩
            go_wp2_with fail
            go_roundw
            case rel => exact ⟨k + 1, by omega, by go_num, XR.out⟩
            case measure => simp [intOf]; omega
          · have d1 : decide ((k : Int) < (t : Int)) = false := by simp; omega
            have d1' : decide (k < t) = false := by simp; omega
            have dj : ((j : Int) != -1) = true := by rw [bne_iff_ne]; omega
            have dl : (lj == lj) = true := by simp
            have dn : decide ((20 : Int) < (NN : Int)) = true := by simp; omega
            have dn' : decide (20 < NN) = true := by simp; omega
            have dm : ((20 : Int)).toNat = 20 := rfl
            have HCe : Hid (∀ W, Ext wr W → W.cell? ⟨gk, 20, none⟩ = some (.int .u64 sj)) := Lib.hid (fun W x => by
              obtain ⟨ad, e, _, hc⟩ := (HIk.out.ext (XR.out.trans x)) (by rw [HKl.out]; omega)
              injection e with e
              subst e
              have h2 := hc 20 (by rw [HKl.out]; omega)
              rw [at0, HKv.out] at h2
              exact h2)
            clear A7 A8 HE3
            go_wp2_with fail
            refine (awake13_ok _).mono ?_
            rintro e w8 ⟨rfl, x8⟩
            have X8 := Lib.hid x8
            clear x8
            go_wp2_with fail
            refine (HLj.out _).mono ?_
            rintro e w9 ⟨rfl, x9⟩
            have X9 := Lib.hid (X8.out.trans x9)
            have c20 := HCe.out w9 X9.out
            clear x9 X8
            go_wp2_with fail
            refine (HCj.out _).mono ?_
            rintro e w10 ⟨rfl, x10⟩
            have X10 := Lib.hid (((X7.out.trans XR.out).trans X9.out).trans x10)
            clear x10 c20
            go_wp2_with fail
            go_ret
            exact ⟨rfl, X10.out⟩

set_option maxRecDepth 100000 in
set_option maxHeartbeats 4000000 in
theorem linkWins_no (w : World) (A : Option Addr) (n c : Nat) (t s l b : Int) (h : ¬ GrOk t s l b ∨ 300 < n) (hn : n ≤ 9223372036854775807) :
    Calls Tryz.prog 14 #[.agg #[.int .i64 t, .int .i64 s, .int .i64 l, .int .i64 b], .slice A n c] w fun e w' => e = .returned (.bool true) ∧ Ext w w' := by
  have X0 := Lib.hid ((Ext.refl w).alloc (.cells #[.int .i64 t, .int .i64 s, .int .i64 l, .int .i64 b] 23))
  by_cases hg : GrOk t s l b
  · have h3 : 300 < n := h.resolve_left (fun k => k hg)
    have HY := Lib.hid (fun W => few9_yes t s l b W hg)
    have d3 : decide (300 < n) = true := by simp; omega
    have d3' : decide ((300 : Int) < (n : Int)) = true := by simp; omega
    clear h hg
    go_enter Tryz.func14, Tryz.ntmps14
    go_wp2_with fail
    refine (HY.out _).mono ?_
    rintro e w1 ⟨rfl, x1⟩
    have X1 := Lib.hid (X0.out.trans x1)
    clear x1
    go_wp2_with fail
    refine (awake13_ok _).mono ?_
    rintro e w2 ⟨rfl, x2⟩
    have X2 := Lib.hid (X1.out.trans x2)
    clear x2
    go_wp2_with fail
    go_ret
    exact ⟨rfl, X2.out⟩
  · have HY := Lib.hid (fun W => few9_no t s l b W hg)
    clear h hg
    go_enter Tryz.func14, Tryz.ntmps14
    go_wp2_with fail
    refine (HY.out _).mono ?_
    rintro e w1 ⟨rfl, x1⟩
    have X1 := Lib.hid (X0.out.trans x1)
    clear x1
    go_wp2_with fail
    refine (awake13_ok _).mono ?_
    rintro e w2 ⟨rfl, x2⟩
    have X2 := Lib.hid (X1.out.trans x2)
    clear x2
    go_wp2_with fail
    go_ret
    exact ⟨rfl, X2.out⟩
theorem linkWins_walk (w : World) (t s l b : Int) (A : Option Addr) (n c : Nat) (zs : List Int) (hl : zs.length = n) (hn : n ≤ 9223372036854775807) (hA : Ints w .u8 A zs) (hz : Lim zs 256) :
    Calls Tryz.prog 14 #[.agg #[.int .i64 t, .int .i64 s, .int .i64 l, .int .i64 b], .slice A n c] w fun e w' => e = .returned (.bool true) ∧ Ext w w' := by
  by_cases h : GrOk t s l b ∧ n ≤ 300
  · obtain ⟨hg, hn1⟩ := h
    obtain ⟨⟨q0, q1⟩, ⟨q2, q3⟩, ⟨q4, q5⟩, q6, q7⟩ := id hg.1
    obtain ⟨t', rfl⟩ := Int.eq_ofNat_of_zero_le (show 0 ≤ t by omega)
    obtain ⟨s', rfl⟩ := Int.eq_ofNat_of_zero_le (show 0 ≤ s by omega)
    obtain ⟨l', rfl⟩ := Int.eq_ofNat_of_zero_le (show 0 ≤ l by omega)
    obtain ⟨b', rfl⟩ := Int.eq_ofNat_of_zero_le (show 0 ≤ b by omega)
    exact linkWins_yes w A n c t' s' l' b' zs hl hn1 hA hz hg
  · exact linkWins_no w A n c t s l b (by
      by_cases hg : GrOk t s l b
      · exact Or.inr (by
          have : ¬ n ≤ 300 := fun h2 => h ⟨hg, h2⟩
          omega)
      · exact Or.inl hg) hn

namespace linkWins
set_option maxRecDepth 100000 in
theorem lifted (os : Os) (started : os.Started) (H : Type) (enc : TypeId × Value → H) :
    ReturnsInHanded {} Tryz.checked os 14 .any (Rows.linkWinsSpec.pre6 enc Tryz.prog Tryz.f14 Rows.linkWinsRow.domain false) (Rows.linkWinsSpec.post enc Tryz.prog Tryz.f14 false true false false) := by
  refine returnsInHanded_of_change (C := Tryz.checked) own started (by kernel_rfl) Tryz.func14
    (ChangeSpec.witness6 (enc := enc) (C := Tryz.checked) false ⟨#[], #[.agg #[.int .i64 0, .int .i64 0, .int .i64 0, .int .i64 0], .slice none 0 0], []⟩ 8 (by kernel_rfl) (by kernel_rfl) (by kernel_rfl) (by kernel_rfl)) ?_
  intro W base args ds gs before hval0 hW hcnd _
  have hval : ∀ (j : Nat) t v, Tryz.f14.params[j]? = some t → args[j]? = some v → Value.okWide Tryz.prog W .any base t v := hval0
  have hW' := hW
  obtain ⟨p, q, hA0, hV, rfl, hfz, hnd⟩ := hW
  have hA : DataW.TrodAll enc Tryz.prog W 0 (fun _ => true) true Tryz.f14.params.toList args.toList ds p := hA0
  have hlt : ∀ x ∈ p ++ q, x.block < W.heap.size := fun x hx => hW'.lt x hx
  rw [Tryz.params14] at hA hval
  have hB := hA
  obtain ⟨v0, vs0, d0, ds0, p0, q0, hargs, rfl, rfl, h0, r0⟩ := trodAll_cons hB
  obtain ⟨v1, vs1, d1, ds1, p1, q1, rfl, rfl, rfl, h1, r1⟩ := trodAll_cons r0
  obtain ⟨rfl, rfl, rfl⟩ := trodAll_nil r1
  obtain rfl : args = #[v0, v1] := by cases args; simp_all
  obtain ⟨rfl, rfl⟩ := trodVars_none hV
  obtain ⟨x0t, x0s, x0l, x0b, rfl, ok0⟩ := view_cfg Tryz.underlying23 (by kernel_rfl) (by kernel_rfl) Tryz.underlying3 Tryz.underlying3 Tryz.underlying3 Tryz.underlying3 (hval 0 23 v0 rfl rfl) h0
  obtain ⟨A1, c1, z1, rfl, lc1, mc1, I1, w1⟩ := view_ints Tryz.underlying76 Tryz.underlying5 (by kernel_rfl) (hval 1 76 v1 rfl rfl) h1
  clear hA0 hval0
  refine (linkWins_walk W x0t x0s x0l x0b A1 _ c1 z1 rfl (Nat.le_trans lc1 mc1) I1 (lim_u8 w1)).mono fun e W' ⟨he, hx⟩ => ?_
  subst he
  exact ⟨_, rfl, post_ext (pv := []) hW' (fun _ _ _ => (trodAll_cons_mk (shut_bool Tryz.underlying4 _) trodAll_mk0)) (fun sp hsp => trodAll_stays laid hx _ _ _ _ (readable_of (by kernel_rfl)) hA (fun x hx => hlt x (by first | (simp at hx ⊢; exact hx) | simp at hx)) (fun x hx => hsp x (by first | (simp at hx ⊢; exact hx) | simp at hx))) (fun _ _ => rfl) rfl hx (ok_one (by kernel_rfl) rfl (okWide_bool_mk Tryz.underlying4 _))⟩

theorem over : Rows.linkWinsRow.holds Tryz.pinned (OpenSpec.ofChange Rows.linkWinsSpec) :=
  OpenClaim.holds_of_wide 14 Tryz.f14 rfl rfl rfl rfl rfl rfl rfl ⟨rfl, rfl, rfl, rfl, rfl⟩ rfl rfl rfl rfl rfl (by kernel_rfl) Tryz.func14 linkWins_closed
    (of_decide_eq_true (by kernel_rfl)) (by unfold Func.isWrapper; first | (rw [if_pos (by decide +kernel)]; kernel_rfl) | (rw [if_neg (by decide +kernel)]; exact ⟨rfl, rfl⟩))
    (fun os started H enc _ => lifted os started H enc)
end linkWins

theorem linkWins_holds : Rows.LinkWinsSaid := linkWins.over
#print axioms linkWins_holds
end Go.Proofs.YtndplpfbohigpaaGreat
