/- A slot retired alone, at an epoch, and reclaimed when the epoch has moved: the law answers true for every config, thread, slot and numbers, and changes nothing. Conditions: none. -/
import Derived.Test.YtndplpfbohigpaaGreatKRetE
import Derived.Deep.RegionHeld3
import Derived.Deep.DeepCutAuto
import Derived.Deep.CutBlock
import Derived.Deep.MidRow
import Derived.Test.YtndplpfbohigpaaGreatArgs
import Derived.Test.YtndplpfbohigpaaGreatKView
import Derived.Test.YtndplpfbohigpaaGreatRetireAloneFacts
namespace Go.Proofs.YtndplpfbohigpaaGreat
open Go.ChangeShapes Go.WideShapes Go.ChangeAt Go.RowKit
set_option linter.unusedVariables false

theorem nil_form {w : World} {B : Nat} {e : TypeId} {k : IntKind} {v : Value} (h : Row w B e k v []) : ∃ A c, v = .slice A 0 c := by
  obtain ⟨A, c, e, -, -⟩ := h.form
  exact ⟨A, c, e⟩
theorem one_putE {w : World} (a fi : Int) (ha : I64 a) (hf : W64 fi) : PutsAt (w.alloc (.cells #[.int .i64 a, .int .u64 fi] 65)) (some ⟨w.heap.size, 0, none⟩) [(a, fi)] := fun _ => by
  have b := Blk.new w 65 [.int .i64 a, .int .u64 fi]
  refine ⟨⟨w.heap.size, 0, none⟩, rfl, b.lt, fun i hi => ?_⟩
  have hi0 : i = 0 := by simpa using hi
  subst hi0
  exact ⟨⟨b.cell 0, b.cell 1⟩, ha, hf⟩
theorem stS_fine {k : Nat} {F : Nat → Int} {t p slot : Int} {x : StM} {s : MSt} (hf : Fine k s.dev) (hk : k ≤ 90) : Fine (k + 1) (stS F t p slot x s).2.dev := by
  unfold stS
  split
  · exact hf.up
  split
  · exact act_fine hf hk 1 t (-1) 0 0
  split
  · exact act_fine hf hk 2 t (logN F t p) 0 (entN slot (IntKind.i64.wrap x.ep))
  split
  · exact act_fine hf hk 4 t (logN F t p) 0 0
  · exact act_fine hf hk 5 t 0 0 0
theorem stS_calm {n : Int} {F : Nat → Int} {t p slot : Int} {x : StM} {s : MSt} (h : CalmN n s) : CalmN (n + 1) (stS F t p slot x s).2 := by
  unfold stS
  split
  · exact CalmN.mono h (by omega)
  split
  · exact act_calm h 1 t (-1) 0 0
  split
  · exact act_calm h 2 t (logN F t p) 0 (entN slot (IntKind.i64.wrap x.ep))
  split
  · exact act_calm h 4 t (logN F t p) 0 0
  · exact act_calm h 5 t 0 0 0
/-- The ground's words: the epoch alone. -/
theorem ep_ground {t s l b : Nat} {n0 : Int} : (∀ a, peekV (groundSt t s l b [(-1, n0)]) a = if a = -1 then n0 else 0) ∧ MOk (2 + t + s) (wN t s l b) (groundSt t s l b [(-1, n0)]) := by
  have ok := MOk.start t s l b
  refine ⟨fun a => ?_, ok.putAll _⟩
  show peekV ((startSt t s l b).store 0 (-1) n0) a = _
  rw [peekV_store ok (ok.is (by omega) (by omega)), start_peek]
theorem slots_one {t s l b th : Nat} {st : MSt} (hth : th < t) (hl : 0 < l) (v : Int) (h : ∀ n : Nat, n < l → peekV st (logN (layF t s l b) th n) = if n = 0 then v else 0) : slotsL (layF t s l b) t l st th = if v = 0 then [] else [toN v] := by
  unfold slotsL
  rw [if_pos ⟨by omega, by omega⟩, logL_first _ hl (fun n h0 h1 => by
    show peekV st (logN (layF t s l b) th n) = 0
    rw [h n h1, if_neg (by omega)])]
  have e : VF (layF t s l b) th st 0 = v := by
    show peekV st (logN (layF t s l b) th ((0 : Nat) : Int)) = v
    rw [h 0 hl, if_pos rfl]
  rw [e]
theorem log_pos {t s l b th n : Nat} (hth : th < t) (hn : n < l) : logN (layF t s l b) th n ≠ -1 ∧ logN (layF t s l b) th n ≠ -2 := by
  have := log_in (t := t) (s := s) (l := l) (b := b) hth hn
  omega
/-- All that comes of it. -/
structure AloneAt (t s l b th sl : Nat) (n0 n1 : Int) : Prop where
  pl : (stepsR (rvS (layF t s l b) th sl) (⟨0, 0, false⟩, groundSt t s l b [(-1, n0)]) 5).1 = ⟨0, 4, true⟩
  st : StampRun (2 + t + s) (wN t s l b) (layF t s l b) th sl n0 (stepsR (rvS (layF t s l b) th sl) (⟨0, 0, false⟩, groundSt t s l b [(-1, n0)]) 5).2
  sls : slotsL (layF t s l b) t l (stepsT (stS (layF t s l b) th 0 sl) (⟨0, 0, false⟩, (stepsR (rvS (layF t s l b) th sl) (⟨0, 0, false⟩, groundSt t s l b [(-1, n0)]) 5).2) 5).2 th = [(sl : Int)]
  rb : RB (layF t s l b) (2 + t + s) (wN t s l b) th l sl n0 (n0 + n1) ((stepsT (stS (layF t s l b) th 0 sl) (⟨0, 0, false⟩, (stepsR (rvS (layF t s l b) th sl) (⟨0, 0, false⟩, groundSt t s l b [(-1, n0)]) 5).2) 5).2.store 0 (-1) (n0 + n1))
theorem alone_at {t s l b th sl : Nat} {n0 n1 : Int} (hth : th < t) (hl : 0 < l) (hs : sl < s) (hs1 : s ≤ 1000) (h0 : 0 ≤ n0 ∧ n0 < 256) : AloneAt t s l b th sl n0 n1 := by
  obtain ⟨g1, g2⟩ := ep_ground (t := t) (s := s) (l := l) (b := b) (n0 := n0)
  have hr := log_in (t := t) (s := s) (l := l) (b := b) hth hl
  obtain ⟨r1, r2, r3⟩ := res_free (F := layF t s l b) (th := (th : Int)) (slot := (sl : Int)) (L := l) rfl g2 0 hl (fun n hn => by omega) (by rw [g1, if_neg (log_pos hth hl).1]) ⟨by omega, hr.2⟩ 1
  rw [show 0 + 4 + 1 = 5 from rfl] at r1 r2 r3
  have he : peekV (stepsR (rvS (layF t s l b) th sl) (⟨0, 0, false⟩, groundSt t s l b [(-1, n0)]) 5).2 (-1) = n0 := by
    rw [r2, if_neg (fun c => (log_pos hth hl).1 c.symm), g1, if_pos rfl]
  have sr := stamp_run (F := layF t s l b) (th := (th : Int)) (sl := (sl : Int)) r3 (by omega) he h0 hr
  have hp := sr.pv
  have key : ∀ n : Nat, n < l → peekV (stepsT (stS (layF t s l b) th 0 sl) (⟨0, 0, false⟩, (stepsR (rvS (layF t s l b) th sl) (⟨0, 0, false⟩, groundSt t s l b [(-1, n0)]) 5).2) 5).2 (logN (layF t s l b) th n) = if n = 0 then entN sl n0 else 0 := fun n hn => by
    rw [hp]
    by_cases c : n = 0
    · subst c
      rw [if_pos rfl]
      exact if_pos rfl
    · have e1 : ¬ logN (layF t s l b) th n = logN (layF t s l b) th 0 := fun e => c (log_inj (t := t) (s := s) (b := b) hth hn hl e)
      rw [if_neg e1, r2]
      have e2 : ¬ logN (layF t s l b) th n = logN (layF t s l b) th ((0 : Nat) : Int) := e1
      rw [if_neg e2, g1, if_neg (log_pos hth hn).1, if_neg c]
  obtain ⟨t1, t2, t3⟩ := ent_to (sl := (sl : Int)) (e := n0) ⟨by omega, by omega⟩ h0
  refine ⟨r1, sr, ?_, ?_⟩
  · rw [slots_one hth hl (entN sl n0) key, if_neg t3, t1]
  · have ok := sr.ok
    have hb : peekB (stepsT (stS (layF t s l b) th 0 sl) (⟨0, 0, false⟩, (stepsR (rvS (layF t s l b) th sl) (⟨0, 0, false⟩, groundSt t s l b [(-1, n0)]) 5).2) 5).2 (-1) = true := ok.is (by omega) (by omega)
    have hv := peekV_store ok hb 0 (n0 + n1)
    refine ⟨ok.store 0 (-1) _, by rw [hv, if_pos rfl], ?_, fun n n1' hn => ?_, ?_⟩
    · have := key 0 hl
      rw [if_pos rfl] at this
      have hp0 := (log_pos (s := s) (b := b) (n := 0) hth hl).1
      rw [show ((0 : Nat) : Int) = 0 from rfl] at hp0
      rw [hv, if_neg hp0]
      exact this
    · rw [hv, if_neg (log_pos hth hn).1, key n hn, if_neg (by omega)]
    · rw [hv, if_neg (by decide), hp, if_neg (fun c => (log_pos (n := 0) hth hl).2 c.symm), r2, if_neg (fun c => (log_pos (n := 0) hth hl).2 c.symm), g1, if_neg (by decide)]
set_option maxRecDepth 100000 in
set_option maxHeartbeats 16000000 in
theorem retireAlone_yes (w : World) (t s l b th sl : Nat) (n0 n1 : Int) (hg : GrOk t s l b) (hth : th < t) (hsl : sl < s) (hn0 : 0 ≤ n0 ∧ n0 < 256) (hn1 : 0 ≤ n1 ∧ n1 < 256) :
    Calls Tryz.prog 4 #[.agg #[.int .i64 t, .int .i64 s, .int .i64 l, .int .i64 b], .agg #[.int .i64 th, .int .i64 sl], .agg #[.int .u8 n0, .int .u8 n1]] w fun e w' => e = .returned (.bool true) ∧ Ext w w' := by
  have X0 := Lib.hid ((((Ext.refl w).alloc (.cells #[.int .i64 t, .int .i64 s, .int .i64 l, .int .i64 b] 23)).alloc (.cells #[.int .i64 th, .int .i64 sl] 61)).alloc (.cells #[.int .u8 n0, .int .u8 n1] 62))
  have B0 : Hid (Blk (((w.alloc (.cells #[.int .i64 t, .int .i64 s, .int .i64 l, .int .i64 b] 23)).alloc (.cells #[.int .i64 th, .int .i64 sl] 61)).alloc (.cells #[.int .u8 n0, .int .u8 n1] 62)) w.heap.size 23 [.int .i64 t, .int .i64 s, .int .i64 l, .int .i64 b]) := Lib.hid (((Blk.new w 23 [.int .i64 t, .int .i64 s, .int .i64 l, .int .i64 b]).ext ((Ext.refl _).alloc (.cells #[.int .i64 th, .int .i64 sl] 61))).ext ((Ext.refl _).alloc (.cells #[.int .u8 n0, .int .u8 n1] 62)))
  have U0 : Hid (Blk (((w.alloc (.cells #[.int .i64 t, .int .i64 s, .int .i64 l, .int .i64 b] 23)).alloc (.cells #[.int .i64 th, .int .i64 sl] 61)).alloc (.cells #[.int .u8 n0, .int .u8 n1] 62)) (w.heap.size + 1) 61 [.int .i64 th, .int .i64 sl]) := Lib.hid (by have := (Blk.new (w.alloc (.cells #[.int .i64 t, .int .i64 s, .int .i64 l, .int .i64 b] 23)) 61 [.int .i64 th, .int .i64 sl]).ext ((Ext.refl _).alloc (.cells #[.int .u8 n0, .int .u8 n1] 62)); rw [World.size_alloc] at this; exact this)
  have V0 : Hid (Blk (((w.alloc (.cells #[.int .i64 t, .int .i64 s, .int .i64 l, .int .i64 b] 23)).alloc (.cells #[.int .i64 th, .int .i64 sl] 61)).alloc (.cells #[.int .u8 n0, .int .u8 n1] 62)) (w.heap.size + 2) 62 [.int .u8 n0, .int .u8 n1]) := Lib.hid (by have := Blk.new ((w.alloc (.cells #[.int .i64 t, .int .i64 s, .int .i64 l, .int .i64 b] 23)).alloc (.cells #[.int .i64 th, .int .i64 sl] 61)) 62 [.int .u8 n0, .int .u8 n1]; rw [World.size_alloc, World.size_alloc] at this; exact this)
  obtain ⟨hc, h1, h2, h3, h4⟩ := id hg
  obtain ⟨⟨q0, q1⟩, ⟨q2, q3⟩, ⟨q4, q5⟩, q6, q7⟩ := id hc
  have HFe := Lib.hid (fun W => few9_yes t s l b W hg)
  have HOk := Lib.hid (okayF hc)
  have hl8 : l ≤ 8 := by omega
  have hl1 : 0 < l := by omega
  have hs30 : s ≤ 30 := by omega
  have HN0 := Lib.hid hn0
  have HN1 := Lib.hid hn1
  have HAA := Lib.hid (alone_at (b := b) (n1 := n1) hth hl1 hsl (by omega) hn0)
  have HTh := Lib.hid (show I64 (th : Int) from ⟨by omega, by omega⟩)
  have HSl := Lib.hid (show I64 (sl : Int) from ⟨by omega, by omega⟩)
  have HFi := Lib.hid ((ground_fine t s l b [(-1, n0)]).le' (show 0 ≤ 30 by decide))
  have HCa := Lib.hid (ground_calm t s l b [(-1, n0)] (by show 1 ≤ 100; decide))
  have HLay := Lib.hid (fun (W : World) => lay_ok (W.alloc (.cells #[.int .i64 (-1), .int .u64 n0] 65)) (some ⟨W.heap.size, 0, none⟩) 1 1 t s l b [(-1, n0)] hg rfl (by decide) (one_putE (-1) n0 ⟨by decide, by decide⟩ ⟨hn0.1, by omega⟩))
  unfold GrNew at HLay
  have d0 : decide ((th : Int) < 0) = false := by simp
  have d1 : decide ((t : Int) ≤ (th : Int)) = false := by simp; omega
  have d1' : decide (t ≤ th) = false := by simp; omega
  have d2 : decide ((sl : Int) < 0) = false := by simp
  have d3 : decide ((s : Int) ≤ (sl : Int)) = false := by simp; omega
  have d3' : decide (s ≤ sl) = false := by simp; omega
  have WN0 := Lib.hid (u64w n0 hn0.1 (by omega))
  have WN1 := Lib.hid (u64w n1 hn1.1 (by omega))
  have WNS := Lib.hid (u64w (n0 + n1) (by omega) (by omega))
  obtain ⟨F, hF⟩ : ∃ F, layF t s l b = F := ⟨_, rfl⟩
  have HF0 : Hid (F 0 = (t : Int)) := Lib.hid (by rw [← hF]; rfl)
  have HF1 : Hid (F 1 = (s : Int)) := Lib.hid (by rw [← hF]; rfl)
  have HF2 : Hid (F 2 = (l : Int)) := Lib.hid (by rw [← hF]; rfl)
  have HF21 : Hid (F 21 = -1) := Lib.hid (by rw [← hF]; rfl)
  have HF22 : Hid (F 22 = -2) := Lib.hid (by rw [← hF]; rfl)
  have HSt0 : Hid (∀ E, 0 ≤ E ∧ E < 1000 → ∀ st, RB F (2 + t + s) (wN t s l b) th l sl n0 E st → ∀ k x s', RA F th l sl n0 E st (2 + t + s) (wN t s l b) k x s' → ∀ g, RA F th l sl n0 E st (2 + t + s) (wN t s l b) (k + 1) (rcS F th x s' g).1 (rcS F th x s' g).2) := Lib.hid (fun E hE st hB k x s' h g => by subst hF; exact RA.step hth hl1 ⟨by omega, by omega⟩ (by omega) hn0 hE hB h g)
  have HEn0 : Hid (∀ E st, RB F (2 + t + s) (wN t s l b) th l sl n0 E st → ∀ x s', RA F th l sl n0 E st (2 + t + s) (wN t s l b) 30 x s' → x.dn = true ∧ x.count = (if n0 + 2 ≤ E then 1 else 0) ∧ freeList F s s' = (if n0 + 2 ≤ E then [(sl : Int)] else [], true) ∧ slotsL F t l s' th = if n0 + 2 ≤ E then [] else [(sl : Int)]) := Lib.hid (fun E st hB x s' h => by
    subst hF
    obtain ⟨a1, a2, a3, a4⟩ := RA.end hth hl1 hl8 ⟨by omega, by omega⟩ (by omega) hn0 hB h
    obtain ⟨t1, t2, t3⟩ := ent_to (sl := (sl : Int)) (e := n0) ⟨by omega, by omega⟩ hn0
    refine ⟨a1, a2, a3, ?_⟩
    by_cases c : n0 + 2 ≤ E
    · rw [if_pos c, slots_one hth hl1 0 (fun n hn => by rw [a4 n hn, if_neg (fun d => d.2 c)]; split <;> rfl), if_pos rfl]
    · rw [if_neg c, slots_one hth hl1 (entN sl n0) (fun n hn => by
        rw [a4 n hn]
        by_cases d : n = 0
        · rw [if_pos ⟨d, c⟩, if_pos d]
        · rw [if_neg (fun d2 => d d2.1), if_neg d]), if_neg t3, t1])
  have HRn0 : Hid (∀ k : Nat, k ≤ 60 → (stepsR (rvS F th sl) (⟨0, 0, false⟩, groundSt t s l b [(-1, n0)]) k).1.Wf (l : Int) ∧ Fine (30 + k) (stepsR (rvS F th sl) (⟨0, 0, false⟩, groundSt t s l b [(-1, n0)]) k).2.dev ∧ CalmN (100 + k) (stepsR (rvS F th sl) (⟨0, 0, false⟩, groundSt t s l b [(-1, n0)]) k).2) := Lib.hid (fun k hk => runF HF2.out hl1 th sl _ HFi.out HCa.out k hk)
  obtain ⟨aa1, aa2, aa3, aa4⟩ := HAA.out
  rw [hF] at HOk HLay aa1 aa2 aa3 aa4
  clear hg hc h1 h2 h3 h4 q0 q1 q2 q3 q4 q5 q6 q7 hn0 hn1 HAA hF
  obtain ⟨P, hP⟩ : ∃ P : Nat → RvM × MSt, ∀ k, stepsR (rvS F th sl) (⟨0, 0, false⟩, groundSt t s l b [(-1, n0)]) k = P k := ⟨_, fun _ => rfl⟩
  have HSc : Hid (∀ k : Nat, rvS F th sl (P k).1 (P k).2 = P (k + 1)) := Lib.hid (fun k => by rw [← hP, ← hP]; rfl)
  have HP0 : Hid (P 0 = (⟨0, 0, false⟩, groundSt t s l b [(-1, n0)])) := Lib.hid (hP 0).symm
  have HRn : Hid (∀ k : Nat, k ≤ 60 → (P k).1.Wf (l : Int) ∧ Fine (30 + k) (P k).2.dev ∧ CalmN (100 + k) (P k).2) := Lib.hid (fun k hk => by rw [← hP]; exact HRn0.out k hk)
  rw [hP] at aa1 aa2 aa3 aa4
  obtain ⟨S, hS⟩ : ∃ S : Nat → StM × MSt, ∀ k, stepsT (stS F th 0 sl) (⟨0, 0, false⟩, (P 5).2) k = S k := ⟨_, fun _ => rfl⟩
  have HSs : Hid (∀ k : Nat, stS F th 0 sl (S k).1 (S k).2 = S (k + 1)) := Lib.hid (fun k => by rw [← hS, ← hS]; rfl)
  have HS0 : Hid (S 0 = (⟨0, 0, false⟩, (P 5).2)) := Lib.hid (hS 0).symm
  obtain ⟨b1, b2, b3, b4⟩ := aa2
  have HSw : Hid (∀ k : Nat, (S k).1.Wf) := Lib.hid (fun k => by rw [← hS]; exact b1 k)
  rw [hS] at b2 aa3 aa4
  have HSf : Hid (∀ k : Nat, k ≤ 20 → Fine (35 + k) (S k).2.dev ∧ CalmN (105 + (k : Int)) (S k).2) := Lib.hid (fun k => by
    induction k with
    | zero =>
      intro _
      rw [HS0.out]
      have := HRn.out 5 (by omega)
      exact ⟨this.2.1, by have := this.2.2; simpa using this⟩
    | succ k ih =>
      intro hk
      obtain ⟨f1, f2⟩ := ih (by omega)
      rw [← HSs.out k]
      refine ⟨stS_fine (k := 35 + k) f1 (by omega), ?_⟩
      have := stS_calm (F := F) (t := (th : Int)) (p := 0) (slot := (sl : Int)) (x := (S k).1) f2
      rw [show (105 : Int) + ((k + 1 : Nat) : Int) = 105 + (k : Int) + 1 by omega]
      exact this)
  have A1 := Lib.hid aa1
  have A2 := Lib.hid b2
  have A3 := Lib.hid aa3
  have A4 := Lib.hid aa4
  clear aa1 b1 b2 b3 b4 aa3 aa4 hP hS HRn0
  generalize groundSt t s l b [(-1, n0)] = st at *
  go_enter Tryz.func4, Tryz.ntmps4
  go_upto_region 1 with fail
  generalize (((w.alloc (.cells #[.int .i64 t, .int .i64 s, .int .i64 l, .int .i64 b] 23)).alloc (.cells #[.int .i64 th, .int .i64 sl] 61)).alloc (.cells #[.int .u8 n0, .int .u8 n1] 62)) = W0 at *
  have y0 : W0.cell? ⟨w.heap.size, 0, none⟩ = some (.int .i64 t) := (B0.out).cell 0
  have y1 : W0.cell? ⟨w.heap.size, 1, none⟩ = some (.int .i64 s) := (B0.out).cell 1
  have y2 : W0.cell? ⟨w.heap.size, 2, none⟩ = some (.int .i64 l) := (B0.out).cell 2
  have y3 : W0.cell? ⟨w.heap.size, 3, none⟩ = some (.int .i64 b) := (B0.out).cell 3
  have u0 : W0.cell? ⟨w.heap.size + 1, 0, none⟩ = some (.int .i64 th) := (U0.out).cell 0
  have u1 : W0.cell? ⟨w.heap.size + 1, 1, none⟩ = some (.int .i64 sl) := (U0.out).cell 1
  have v0 : W0.cell? ⟨w.heap.size + 2, 0, none⟩ = some (.int .u8 n0) := (V0.out).cell 0
  have v1 : W0.cell? ⟨w.heap.size + 2, 1, none⟩ = some (.int .u8 n1) := (V0.out).cell 1
  go_wp2_with fail
  refine (HFe.out _).mono ?_
  rintro e w1 ⟨rfl, xf⟩
  have X1 := Lib.hid (X0.out.trans xf)
  have B1 := Lib.hid (B0.out.ext xf)
  have U1 := Lib.hid (U0.out.ext xf)
  have V1 := Lib.hid (V0.out.ext xf)
  clear xf y0 y1 y2 y3 u0 u1 v0 v1 X0 B0 U0 V0 HFe
  have y0 : w1.cell? ⟨w.heap.size, 0, none⟩ = some (.int .i64 t) := (B1.out).cell 0
  have y1 : w1.cell? ⟨w.heap.size, 1, none⟩ = some (.int .i64 s) := (B1.out).cell 1
  have y2 : w1.cell? ⟨w.heap.size, 2, none⟩ = some (.int .i64 l) := (B1.out).cell 2
  have y3 : w1.cell? ⟨w.heap.size, 3, none⟩ = some (.int .i64 b) := (B1.out).cell 3
  have u0 : w1.cell? ⟨w.heap.size + 1, 0, none⟩ = some (.int .i64 th) := (U1.out).cell 0
  have u1 : w1.cell? ⟨w.heap.size + 1, 1, none⟩ = some (.int .i64 sl) := (U1.out).cell 1
  have v0 : w1.cell? ⟨w.heap.size + 2, 0, none⟩ = some (.int .u8 n0) := (V1.out).cell 0
  have v1 : w1.cell? ⟨w.heap.size + 2, 1, none⟩ = some (.int .u8 n1) := (V1.out).cell 1
  have wn0 := WN0.out
  go_upto_region 3 with fail
  clear d0 d1 d1' d2 d3 d3'
  have HS1 : Hid (∀ W, Ext w1 W → W.cell? ⟨w.heap.size, 0, none⟩ = some (.int .i64 t) ∧ W.cell? ⟨w.heap.size, 1, none⟩ = some (.int .i64 s) ∧ W.cell? ⟨w.heap.size, 2, none⟩ = some (.int .i64 l) ∧ W.cell? ⟨w.heap.size, 3, none⟩ = some (.int .i64 b) ∧ W.cell? ⟨w.heap.size + 1, 0, none⟩ = some (.int .i64 th) ∧ W.cell? ⟨w.heap.size + 1, 1, none⟩ = some (.int .i64 sl) ∧ W.cell? ⟨w.heap.size + 2, 0, none⟩ = some (.int .u8 n0) ∧ W.cell? ⟨w.heap.size + 2, 1, none⟩ = some (.int .u8 n1)) := Lib.hid (fun W x => ⟨(B1.out.ext x).cell 0, (B1.out.ext x).cell 1, (B1.out.ext x).cell 2, (B1.out.ext x).cell 3, (U1.out.ext x).cell 0, (U1.out.ext x).cell 1, (V1.out.ext x).cell 0, (V1.out.ext x).cell 1⟩)
  go_wp2_with fail
  refine (HLay.out _).mono ?_
  rintro e w3 ⟨gl, gm, dv, pv, g, R, rv, rfl, bl, gr⟩
  have XB := Lib.hid ((Ext.refl w1).alloc (.cells #[.int .i64 (-1), .int .u64 n0] 65))
  generalize w1.alloc (.cells #[.int .i64 (-1), .int .u64 n0] 65) = wb at *
  have HSb : Hid (∀ W, Ext wb W → W.cell? ⟨w.heap.size, 0, none⟩ = some (.int .i64 t) ∧ W.cell? ⟨w.heap.size, 1, none⟩ = some (.int .i64 s) ∧ W.cell? ⟨w.heap.size, 2, none⟩ = some (.int .i64 l) ∧ W.cell? ⟨w.heap.size, 3, none⟩ = some (.int .i64 b) ∧ W.cell? ⟨w.heap.size + 1, 0, none⟩ = some (.int .i64 th) ∧ W.cell? ⟨w.heap.size + 1, 1, none⟩ = some (.int .i64 sl) ∧ W.cell? ⟨w.heap.size + 2, 0, none⟩ = some (.int .u8 n0) ∧ W.cell? ⟨w.heap.size + 2, 1, none⟩ = some (.int .u8 n1)) := Lib.hid (fun W x => HS1.out W (XB.out.trans x))
  have BL := Lib.hid bl
  have GR := Lib.hid gr
  clear bl gr HLay HS1 y0 y1 y2 y3 u0 u1 v0 v1 B1 U1 V1 wn0
  obtain ⟨y0, y1, y2, y3, u0, u1, v0, v1⟩ := HSb.out w3 GR.out.mem.lt.1
  clear y0 y1 y2 y3 v0 v1
  go_wp2_with fail
  refine (newReserve_ok w3 gl th sl).mono ?_
  rintro e w4 ⟨gp, rfl, lp, bp, x4⟩
  have M4 : Hid (IsMem (fun q => q = gl ∨ q = gp) w4 wb w4 gm dv pv (P 0).2) := Lib.hid (by
    rw [HP0.out]
    exact GR.out.mem.hold x4 (fun q hq => by
      rcases hq with e | e
      · rw [e]; exact ⟨(BL.out.ext x4).lt, Or.inl (Or.inr rfl)⟩
      · rw [e]; exact ⟨bp.lt, Or.inr lp⟩))
  have BL4 : Hid (Blk w4 gl 256 (cellsF F)) := Lib.hid (BL.out.ext x4)
  have BP4 : Hid (Blk w4 gp 196 ((P 0).1.cells gl th sl)) := Lib.hid (by rw [HP0.out]; exact bp)
  have hw1 : wb.heap.size ≤ gp := Nat.le_trans GR.out.mem.lt.1.size lp
  have npl : gl ≠ gp := by have := BL.out.lt; omega
  clear bp x4 lp u0 u1 GR BL
  go_wp2_with fail
  go_loopw [12] (fun i wr => ∃ k : Nat, k ≤ 5 ∧ i = .int .i64 k ∧ IsMem (fun q => q = gl ∨ q = gp) wr wb wr gm dv pv (P k).2 ∧ Blk wr gl 256 (cellsF F) ∧ Blk wr gp 196 ((P k).1.cells gl th sl)) (fun i _ => 5 - (intOf i).toNat)
  case atStart => exact ⟨0, by omega, rfl, M4.out, BL4.out, BP4.out⟩
  case round =>
    obtain ⟨k, hk, rfl, mk, lk, pk⟩ := hrel
    have MK := Lib.hid mk
    have LK := Lib.hid lk
    have PK := Lib.hid pk
    clear mk lk pk M4 BL4 BP4
    by_cases hlt : k < 5
    · have v1 : decide (k < 5) = true := by simp; omega
      have v2 : decide ((k : Int) < 5) = true := by simp; omega
      have ha := HRn.out k (by omega)
      have HSt := Lib.hid (rvStep_ok (slot := (sl : Int)) (L := l) (i := 30 + k) MK.out (ha.2.2.calm (by omega)) (by omega) ha.2.1 HOk.out HSl.out ha.1 HF2.out (by omega) PK.out LK.out (Or.inr rfl) (Or.inl rfl) npl hw1)
      have e1 := HSc.out k
      rw [e1] at HSt
      clear e1 ha
      go_wp2_with fail
      refine HSt.out.mono ?_
      rintro e w5 ⟨rfl, m5, b5, k5⟩
      have M5 := Lib.hid m5
      have B5 := Lib.hid b5
      have L5 : Hid (Blk w5 gl 256 (cellsF F)) := Lib.hid ((k5 gl (Or.inl rfl) npl).trans LK.out)
      clear m5 b5 k5 HSt MK LK PK
      go_wp2_with fail
      go_roundw
      case rel => exact ⟨k + 1, by omega, by go_num, M5.out, L5.out, B5.out⟩
      case measure => simp [intOf]; omega
    · have v1 : decide (k < 5) = false := by simp; omega
      have v2 : decide ((k : Int) < 5) = false := by simp; omega
      obtain rfl : k = 5 := by omega
      have htl : (P 5).1.tells (F 2) = 0 := by
        rw [A1.out, HF2.out]
        show (if true = true ∧ (0 : Int) < (l : Int) then (0 : Int) else -1) = 0
        rw [if_pos ⟨rfl, by omega⟩]
      have HTl := Lib.hid htl
      clear htl
      generalize wr = w5 at *
      have HPa := Lib.hid (fun W (x : Ext w5 W) => place_ok (F := F) W gp gl (P 5).1 th sl (PK.out.ext x) (LK.out.ext x))
      rw [HTl.out] at HPa
      have HNs := Lib.hid (fun W => newStamp_ok W gl (th : Int) 0 (sl : Int))
      have HX5 := Lib.hid MK.out.lt.1
      obtain ⟨y0, y1, y2, y3, u0, u1, v0, vv1⟩ := HSb.out w5 HX5.out
      clear y0 y1 y2 y3 v0 vv1
      go_upto_region 9 with fail
      have XT := Lib.hid (HX5.out.drew)
      have XE := Lib.hid ((Ext.refl w5).drew)
      go_region_held3 (fun W => W.cell? ⟨w.heap.size + 1, 0, none⟩ = some (.int .i64 th) ∧ W.cell? ⟨w.heap.size + 1, 1, none⟩ = some (.int .i64 sl)) (first | exact ⟨(HSb.out _ XT.out).2.2.2.2.1, (HSb.out _ XT.out).2.2.2.2.2.1⟩ | go_keep) (first
        | (go_at_call 31; refine (HPa.out _ XE.out).mono ?_; rintro e wa ⟨rfl, xa⟩; replace XT := Lib.hid (XT.out.trans xa); replace XE := Lib.hid (XE.out.trans xa); clear xa)
        | (go_at_call 30; refine (HNs.out _).mono ?_; rintro e w6 ⟨gq, rfl, lq, bq, xq⟩; have LQ := Lib.hid (Nat.le_trans XE.out.size lq); replace XT := Lib.hid (XT.out.trans xq); replace XE := Lib.hid (XE.out.trans xq); have BQ := Lib.hid bq; clear lq bq xq))
      all_goals
        have npq : gp ≠ gq := by have := PK.out.lt; have := LQ.out; omega
        have nlq : gl ≠ gq := by have := LK.out.lt; have := LQ.out; omega
        have M6 : Hid (IsMem (fun q => q = gl ∨ q = gp ∨ q = gq) w6 wb w6 gm dv pv (S 0).2) := Lib.hid (by
          rw [HS0.out]
          exact MK.out.hold XE.out (fun q hq => by
            rcases hq with e | e | e
            · rw [e]; exact ⟨(LK.out.ext XE.out).lt, Or.inl (Or.inl rfl)⟩
            · rw [e]; exact ⟨(PK.out.ext XE.out).lt, Or.inl (Or.inr rfl)⟩
            · rw [e]; exact ⟨BQ.out.lt, Or.inr LQ.out⟩))
        have L6 := Lib.hid (LK.out.ext XE.out)
        have P6 := Lib.hid (PK.out.ext XE.out)
        have B6 : Hid (Blk w6 gq 200 ((S 0).1.cells gl th 0 sl)) := Lib.hid (by rw [HS0.out]; exact BQ.out)
        have hw2 : wb.heap.size ≤ gq := Nat.le_trans HX5.out.size LQ.out
        clear XE XT BQ LQ MK LK PK u0 u1 HPa HNs HX5 v1 v2
        go_wp2_with fail
        go_loopw [14] (fun i wr => ∃ k : Nat, k ≤ 5 ∧ i = .int .i64 k ∧ IsMem (fun q => q = gl ∨ q = gp ∨ q = gq) wr wb wr gm dv pv (S k).2 ∧ Blk wr gl 256 (cellsF F) ∧ Blk wr gp 196 ((P 5).1.cells gl th sl) ∧ Blk wr gq 200 ((S k).1.cells gl th 0 sl)) (fun i _ => 5 - (intOf i).toNat)
        case atStart => exact ⟨0, by omega, rfl, M6.out, L6.out, P6.out, B6.out⟩
        case round =>
          obtain ⟨k, hk, rfl, mk, lk, pk, qk⟩ := hrel
          have MK := Lib.hid mk
          have LK := Lib.hid lk
          have PK := Lib.hid pk
          have QK := Lib.hid qk
          clear mk lk pk qk M6 L6 P6 B6
          by_cases hlt : k < 5
          · have v1 : decide (k < 5) = true := by simp; omega
            have v2 : decide ((k : Int) < 5) = true := by simp; omega
            have ha := HSf.out k (by omega)
            have HSt := Lib.hid (stStep_ok (place := 0) (slot := (sl : Int)) (i := 35 + k) MK.out (ha.2.calm (by omega)) (by omega) ha.1 HOk.out HSl.out (HSw.out k) HF21.out QK.out LK.out (Or.inr (Or.inr rfl)) (Or.inl rfl) nlq hw2)
            have e1 := HSs.out k
            rw [e1] at HSt
            clear e1 ha
            go_wp2_with fail
            refine HSt.out.mono ?_
            rintro e w5 ⟨rfl, m5, b5, k5⟩
            have M5 := Lib.hid m5
            have B5 := Lib.hid b5
            have L5 : Hid (Blk w5 gl 256 (cellsF F)) := Lib.hid ((k5 gl (Or.inl rfl) nlq).trans LK.out)
            have P5 : Hid (Blk w5 gp 196 ((P 5).1.cells gl th sl)) := Lib.hid ((k5 gp (Or.inr (Or.inl rfl)) npq).trans PK.out)
            clear m5 b5 k5 HSt MK LK PK QK
            go_wp2_with fail
            go_roundw
            case rel => exact ⟨k + 1, by omega, by go_num, M5.out, L5.out, P5.out, B5.out⟩
            case measure => simp [intOf]; omega
          · have v1 : decide (k < 5) = false := by simp; omega
            have v2 : decide ((k : Int) < 5) = false := by simp; omega
            obtain rfl : k = 5 := by omega
            have hsl2 := slots_ok (t := (th : Int)) MK.out HOk.out t l HF0.out (by omega) HF2.out LK.out
            rw [A3.out] at hsl2
            have HSlo := Lib.hid hsl2
            obtain ⟨y0, y1, y2, y3, u0, u1, v0, vv1⟩ := HSb.out wr MK.out.lt.1
            clear y0 y1 y2 y3 hsl2 u1 v0 vv1
            go_wp2_with fail
            refine HSlo.out.mono ?_
            rintro e w7 ⟨v15, rfl, row, x7⟩
            obtain ⟨gs, cs, rfl, hgs, hgl7, hcs⟩ := row.at_ (n := 1) rfl (by decide)
            have hcell := hcs 0 (by decide)
            have HCs : Hid (w7.cell? ⟨gs, 0, none⟩ = some (.int .i64 sl)) := Lib.hid hcell
            have HGs := Lib.hid (And.intro hgs hgl7)
            have M7 : Hid (IsMem (fun q => q = gl ∨ q = gp ∨ q = gq ∨ q = gs) w7 wb w7 gm dv pv (S 5).2) := Lib.hid (MK.out.hold x7 (fun q hq => by
              rcases hq with e | e | e | e
              · rw [e]; exact ⟨(LK.out.ext x7).lt, Or.inl (Or.inl rfl)⟩
              · rw [e]; exact ⟨(PK.out.ext x7).lt, Or.inl (Or.inr (Or.inl rfl))⟩
              · rw [e]; exact ⟨(QK.out.ext x7).lt, Or.inl (Or.inr (Or.inr rfl))⟩
              · rw [e]; exact ⟨hgl7, Or.inr hgs⟩))
            have nls : gl ≠ gs := by have := LK.out.lt; omega
            have nps : gp ≠ gs := by have := PK.out.lt; omega
            have nqs : gq ≠ gs := by have := QK.out.lt; omega
            have L7 := Lib.hid (LK.out.ext x7)
            have P7 := Lib.hid (PK.out.ext x7)
            have Q7 := Lib.hid (QK.out.ext x7)
            have hfS := HSf.out 5 (by omega)
            have HStr := Lib.hid (memStore_ok M7.out 0 (-1) (n0 + n1) (by decide) (by decide) (by have := HN0.out; have := HN1.out; omega) (hfS.2.calm (by decide)))
            have HCs5 := Lib.hid hfS.2
            obtain ⟨y0, y1, y2, y3, u0, u1, v0, vv1⟩ := HSb.out w7 M7.out.lt.1
            have wn0 := WN0.out
            have wn1 := WN1.out
            have wns := WNS.out
            clear y0 y1 y2 y3 u0 u1 row hcs hcell hgs hgl7 x7 HSlo MK LK PK QK hfS v1 v2
            go_wp2_with fail
            refine HStr.out.mono ?_
            rintro e w8 ⟨⟨uu, rfl⟩, m8⟩
            have L8 : Hid (Blk w8 gl 256 (cellsF F)) := Lib.hid ((m8.keptQ gl (Or.inl rfl)).trans L7.out)
            have P8 : Hid (Blk w8 gp 196 ((P 5).1.cells gl th sl)) := Lib.hid ((m8.keptQ gp (Or.inr (Or.inl rfl))).trans P7.out)
            have Q8 : Hid (Blk w8 gq 200 ((S 5).1.cells gl th 0 sl)) := Lib.hid ((m8.keptQ gq (Or.inr (Or.inr (Or.inl rfl)))).trans Q7.out)
            have C8 : Hid (w8.cell? ⟨gs, 0, none⟩ = some (.int .i64 sl)) := Lib.hid (by rw [← HCs.out]; exact World.cell?_of_block (m8.keptQ gs (Or.inr (Or.inr (Or.inr rfl)))))
            have M8 := Lib.hid m8.here
            have CA8 : Hid (CalmN 111 ((S 5).2.store 0 (-1) (n0 + n1))) := Lib.hid (CalmN.store (n := 110) HCs5.out 0 (-1) (n0 + n1))
            clear m8 HStr M7 L7 P7 Q7 HCs v0 vv1 wn0 wn1 wns HCs5
            obtain ⟨st2, hst2⟩ : ∃ st2, (S 5).2.store 0 (-1) (n0 + n1) = st2 := ⟨_, rfl⟩
            rw [hst2] at M8 CA8 A4
            clear hst2
            obtain ⟨y0, y1, y2, y3, u0, u1, v0, vv1⟩ := HSb.out w8 M8.out.lt.1
            clear y0 y1 y2 y3 u1 v0 vv1
            go_wp2_with fail
            refine (newReclaim_ok w8 gl th).mono ?_
            rintro e w9 ⟨gx, rfl, lx, bx, x9⟩
            have nlx : gl ≠ gx := by have := L8.out.lt; omega
            have npx : gp ≠ gx := by have := P8.out.lt; omega
            have nqx : gq ≠ gx := by have := Q8.out.lt; omega
            have hgs8 := M8.out.lt.2 gs (Or.inr (Or.inr (Or.inr rfl)))
            have nsx : gs ≠ gx := by omega
            have hw3 : wb.heap.size ≤ gx := Nat.le_trans M8.out.lt.1.size lx
            have M9 : IsMem (fun q => q = gl ∨ q = gp ∨ q = gq ∨ q = gs ∨ q = gx) w9 wb w9 gm dv pv st2 := M8.out.hold x9 (fun q hq => by
              rcases hq with e | e | e | e | e
              · rw [e]; exact ⟨(L8.out.ext x9).lt, Or.inl (Or.inl rfl)⟩
              · rw [e]; exact ⟨(P8.out.ext x9).lt, Or.inl (Or.inr (Or.inl rfl))⟩
              · rw [e]; exact ⟨(Q8.out.ext x9).lt, Or.inl (Or.inr (Or.inr (Or.inl rfl)))⟩
              · rw [e]; exact ⟨Nat.lt_of_lt_of_le hgs8 x9.size, Or.inl (Or.inr (Or.inr (Or.inr rfl)))⟩
              · rw [e]; exact ⟨bx.lt, Or.inr lx⟩)
            have R9 : Hid (RcAt (fun q => q = gl ∨ q = gp ∨ q = gq ∨ q = gs ∨ q = gx) wb w9 gm gx gl dv pv th ⟨false, 0, 0, 0, 0, none, 0⟩ st2) := Lib.hid (RcAt.none rfl M9 bx)
            have L9 := Lib.hid (L8.out.ext x9)
            have P9 := Lib.hid (P8.out.ext x9)
            have Q9 := Lib.hid (Q8.out.ext x9)
            have C9 : Hid (w9.cell? ⟨gs, 0, none⟩ = some (.int .i64 sl)) := Lib.hid (by rw [← C8.out]; exact World.cell?_of_block (x9.block gs hgs8))
            have HA0 : Hid (RA F th l sl n0 (n0 + n1) st2 (2 + t + s) (wN t s l b) 0 ⟨false, 0, 0, 0, 0, none, 0⟩ st2) := Lib.hid ⟨A4.out.ok, Or.inl ⟨rfl, rfl, fun _ => rfl⟩⟩
            clear bx lx x9 M9 M8 L8 P8 Q8 C8 hgs8 u0
            go_wp2_with fail
            go_loopw [17] (fun i wr => ∃ (k : Nat) (x : RcM) (s' : MSt), k ≤ 30 ∧ i = .int .i64 k ∧ RcAt (fun q => q = gl ∨ q = gp ∨ q = gq ∨ q = gs ∨ q = gx) wb wr gm gx gl dv pv th x s' ∧ Blk wr gl 256 (cellsF F) ∧ Blk wr gp 196 ((P 5).1.cells gl th sl) ∧ Blk wr gq 200 ((S 5).1.cells gl th 0 sl) ∧ wr.cell? ⟨gs, 0, none⟩ = some (.int .i64 sl) ∧ x.Wf1 (l : Int) ∧ CalmN (111 + (k : Int)) s' ∧ RA F th l sl n0 (n0 + n1) st2 (2 + t + s) (wN t s l b) k x s') (fun i _ => 30 - (intOf i).toNat)
            case atStart => exact ⟨0, _, _, by omega, rfl, R9.out, L9.out, P9.out, Q9.out, C9.out, RcM.wf0 (by omega), by simpa using CA8.out, HA0.out⟩
            case round =>
              obtain ⟨k, x, s', hk, rfl, rk, lk, pk, qk, ck, wk, cak, ak⟩ := hrel
              have RK := Lib.hid rk
              have LK := Lib.hid lk
              have PK := Lib.hid pk
              have QK := Lib.hid qk
              have CK := Lib.hid ck
              have WK := Lib.hid wk
              have CaK := Lib.hid cak
              have AK := Lib.hid ak
              clear rk lk pk qk ck wk cak ak R9 L9 P9 Q9 C9 CA8 HA0
              by_cases hlt : k < 30
              · have v1 : decide (k < 30) = true := by simp; omega
                have v2 : decide ((k : Int) < 30) = true := by simp; omega
                have HSt := Lib.hid (rcStep_ok (L := l) RK.out (CaK.out.calm (by omega)) HOk.out HF21.out HF22.out WK.out HF2.out (by omega) LK.out (Or.inr (Or.inr (Or.inr (Or.inr rfl)))) (Or.inl rfl) nlx hw3)
                have hU := fun a => RK.out.mem.peekU a
                have HWc := Lib.hid (fun g => rcS_wf (F := F) (t := (th : Int)) (g := g) HF2.out hl1 hU WK.out CaK.out)
                have HRa := Lib.hid (fun g => HSt0.out (n0 + n1) (by have := HN0.out; have := HN1.out; omega) st2 A4.out k x s' AK.out g)
                clear hU
                go_wp2_with fail
                refine HSt.out.mono ?_
                rintro e w5 ⟨gg, rfl, r5, k5⟩
                have R5 := Lib.hid r5
                have L5 : Hid (Blk w5 gl 256 (cellsF F)) := Lib.hid ((k5 gl (Or.inl rfl) nlx).trans LK.out)
                have P5 : Hid (Blk w5 gp 196 ((P 5).1.cells gl th sl)) := Lib.hid ((k5 gp (Or.inr (Or.inl rfl)) npx).trans PK.out)
                have Q5 : Hid (Blk w5 gq 200 ((S 5).1.cells gl th 0 sl)) := Lib.hid ((k5 gq (Or.inr (Or.inr (Or.inl rfl))) nqx).trans QK.out)
                have C5 : Hid (w5.cell? ⟨gs, 0, none⟩ = some (.int .i64 sl)) := Lib.hid (by rw [← CK.out]; exact World.cell?_of_block (k5 gs (Or.inr (Or.inr (Or.inr (Or.inl rfl)))) nsx))
                have W5 := Lib.hid (HWc.out gg)
                have A5 := Lib.hid (HRa.out gg)
                clear r5 k5 HSt HWc HRa RK LK PK QK CK WK CaK AK
                generalize rcS F (th : Int) x s' gg = r at *
                obtain ⟨x', s''⟩ := r
                obtain ⟨dd, hdd⟩ : ∃ dd, x'.dn = dd := ⟨_, rfl⟩
                simp only
                rw [hdd]
                clear hdd
                go_wp2_with fail
                go_roundw
                case rel => exact ⟨k + 1, x', s'', by omega, by go_num, R5.out, L5.out, P5.out, Q5.out, C5.out, W5.out.1, by rw [show (111 : Int) + ((k + 1 : Nat) : Int) = 111 + (k : Int) + 1 by omega]; exact W5.out.2, A5.out⟩
                case measure => simp [intOf]; omega
              · have v1 : decide (k < 30) = false := by simp; omega
                have v2 : decide ((k : Int) < 30) = false := by simp; omega
                obtain rfl : k = 30 := by omega
                obtain ⟨e1, e2, e3, e4⟩ := HEn0.out (n0 + n1) st2 A4.out x s' AK.out
                have MM := Lib.hid RK.out.mem
                have HFr := Lib.hid (fun W (y : Ext wr W) => freeList_ok (MM.out.ext y) HOk.out (LK.out.ext y) HF22.out s HF1.out (by omega))
                rw [e3] at HFr
                have HDx := Lib.hid (fun W (y : Ext wr W) => doneReclaim_ok W gx true (by have := (RK.out.blk.ext y).cell 2; rw [← e1]; exact this))
                have HCx0 := Lib.hid (fun W (y : Ext wr W) => count_ok W gx gl x th (RK.out.blk.ext y))
                rw [e2] at HCx0
                have HSx0 := Lib.hid (fun W (y : Ext wr W) => slots_ok (t := (th : Int)) (MM.out.ext y) HOk.out t l HF0.out (by omega) HF2.out (LK.out.ext y))
                rw [e4] at HSx0
                have HDa := Lib.hid (fun W (y : Ext wr W) => doneReserve_ok W gp true (by have := (PK.out.ext y).cell 2; rw [A1.out] at this; exact this))
                have HPa := Lib.hid (fun W (y : Ext wr W) => place_ok (F := F) W gp gl (P 5).1 th sl (PK.out.ext y) (LK.out.ext y))
                rw [HTl.out] at HPa
                have HDb := Lib.hid (fun W (y : Ext wr W) => doneStamp_ok W gq true (by have := (QK.out.ext y).cell 2; rw [← A2.out]; exact this))
                have HCs : Hid (∀ W, Ext wr W → W.cell? ⟨gs, 0, none⟩ = some (.int .i64 sl)) := Lib.hid (fun W y => cellE CK.out y)
                have HXr := Lib.hid MM.out.lt.1
                clear e1 e2 e3 e4 RK LK PK QK CK WK CaK AK MM
                generalize wr = wt at *
                have HC2 : Hid ((n0 + 2 ≤ n0 + n1) ↔ 2 ≤ n1) := Lib.hid ⟨fun h => by omega, fun h => by omega⟩
                by_cases hE : n0 + 2 ≤ n0 + n1
                · rw [if_pos hE] at HFr HCx0 HSx0
                  have v1 : decide (n1 < 2) = false := by have := HC2.out; simp; omega
                  clear HC2 hE
                  go_wp2_with fail
                  refine (HFr.out _ (Ext.refl _)).mono ?_
                  rintro e wu ⟨v18, rfl, row, xu⟩
                  obtain ⟨gf, cf, rfl, -, -, hcf⟩ := row.at_ (n := 1) rfl (by decide)
                  have hf0 := hcf 0 (by decide)
                  have HCf : Hid (∀ W, Ext wu W → W.cell? ⟨gf, 0, none⟩ = some (.int .i64 sl)) := Lib.hid (fun W y => cellE hf0 y)
                  clear hcf hf0 row
                  have XU := Lib.hid ((Ext.refl wu).drew)
                  have XT := Lib.hid (xu.drew)
                  clear xu HFr
                  go_upto_region 22 with fail
                  go_region_held3 (fun W => W.cell? ⟨w.heap.size + 1, 1, none⟩ = some (.int .i64 sl) ∧ W.cell? ⟨gs, 0, none⟩ = some (.int .i64 sl)) (first | exact ⟨(HSb.out _ (HXr.out.trans XT.out)).2.2.2.2.2.1, HCs.out _ XT.out⟩ | go_keep) (first
                    | (go_at_call 38; refine (HDa.out _ XT.out).mono ?_; rintro e wa ⟨rfl, rfl⟩)
                    | (go_at_call 31; refine (HPa.out _ XT.out).mono ?_; rintro e wa ⟨rfl, xa⟩; replace XT := Lib.hid (XT.out.trans xa); replace XU := Lib.hid (XU.out.trans xa); clear xa)
                    | (go_at_call 39; refine (HDb.out _ XT.out).mono ?_; rintro e wa ⟨rfl, rfl⟩)
                    | (go_at_call 40; refine (HDx.out _ XT.out).mono ?_; rintro e wa ⟨rfl, rfl⟩))
                  all_goals
                    obtain ⟨y0, y1, y2, y3, u0, u1, v0, vv1⟩ := HSb.out _ (HXr.out.trans XT.out)
                    clear y0 y1 y2 y3 v0 HDa HPa HDb HDx u0 u1
                    go_wp2_with fail
                    clear vv1
                    replace XT := Lib.hid (XT.out.drew)
                    replace XU := Lib.hid (XU.out.drew)
                    go_region_held3 (fun W => W.cell? ⟨w.heap.size + 1, 0, none⟩ = some (.int .i64 th) ∧ W.cell? ⟨w.heap.size + 1, 1, none⟩ = some (.int .i64 sl) ∧ W.cell? ⟨gf, 0, none⟩ = some (.int .i64 sl)) (first | exact ⟨(HSb.out _ (HXr.out.trans XT.out)).2.2.2.2.1, (HSb.out _ (HXr.out.trans XT.out)).2.2.2.2.2.1, HCf.out _ XU.out⟩ | go_keep) (first
                      | (go_at_call 19; refine (awake11_ok _).mono ?_; rintro e wa ⟨rfl, xa⟩; replace XT := Lib.hid (XT.out.trans xa); replace XU := Lib.hid (XU.out.trans xa); clear xa)
                      | (go_at_call 41; refine (HCx0.out _ XT.out).mono ?_; rintro e wa ⟨rfl, rfl⟩)
                      | (go_at_call 33; refine (HSx0.out _ XT.out).mono ?_; rintro e wa ⟨vs, rfl, rows, xa⟩; obtain ⟨az, cz, rfl⟩ := nil_form rows; clear rows; replace XT := Lib.hid (XT.out.trans xa); replace XU := Lib.hid (XU.out.trans xa); clear xa))
                    all_goals
                      go_wp2_with fail
                      go_ret
                      exact ⟨rfl, X1.out.trans (XB.out.trans (HXr.out.trans XT.out))⟩
                · rw [if_neg hE] at HFr HCx0 HSx0
                  have v1 : decide (n1 < 2) = true := by have := HC2.out; simp; omega
                  clear HC2 hE
                  go_wp2_with fail
                  refine (HFr.out _ (Ext.refl _)).mono ?_
                  rintro e wu ⟨v18, rfl, row, xu⟩
                  obtain ⟨af, cf, rfl⟩ := nil_form row
                  clear row
                  have XU := Lib.hid ((Ext.refl wu).drew)
                  have XT := Lib.hid (xu.drew)
                  clear xu HFr
                  go_upto_region 22 with fail
                  go_region_held3 (fun W => W.cell? ⟨w.heap.size + 1, 1, none⟩ = some (.int .i64 sl) ∧ W.cell? ⟨gs, 0, none⟩ = some (.int .i64 sl)) (first | exact ⟨(HSb.out _ (HXr.out.trans XT.out)).2.2.2.2.2.1, HCs.out _ XT.out⟩ | go_keep) (first
                    | (go_at_call 38; refine (HDa.out _ XT.out).mono ?_; rintro e wa ⟨rfl, rfl⟩)
                    | (go_at_call 31; refine (HPa.out _ XT.out).mono ?_; rintro e wa ⟨rfl, xa⟩; replace XT := Lib.hid (XT.out.trans xa); replace XU := Lib.hid (XU.out.trans xa); clear xa)
                    | (go_at_call 39; refine (HDb.out _ XT.out).mono ?_; rintro e wa ⟨rfl, rfl⟩)
                    | (go_at_call 40; refine (HDx.out _ XT.out).mono ?_; rintro e wa ⟨rfl, rfl⟩))
                  all_goals
                    obtain ⟨y0, y1, y2, y3, u0, u1, v0, vv1⟩ := HSb.out _ (HXr.out.trans XT.out)
                    clear y0 y1 y2 y3 v0 HDa HPa HDb HDx u0 u1
                    go_wp2_with fail
                    clear vv1
                    refine (awake11_ok _).mono ?_
                    rintro e wb1 ⟨rfl, x1⟩
                    replace XT := Lib.hid (XT.out.trans x1)
                    obtain ⟨y0, y1, y2, y3, u0, u1, v0, vv1⟩ := HSb.out _ (HXr.out.trans XT.out)
                    clear x1 y0 y1 y2 y3 u1 v0 vv1
                    go_wp2_with fail
                    refine (HCx0.out _ XT.out).mono ?_
                    rintro e wb2 ⟨rfl, rfl⟩
                    go_wp2_with fail
                    refine (HSx0.out _ XT.out).mono ?_
                    rintro e wb3 ⟨vs, rfl, rows, x3⟩
                    obtain ⟨gz, cz, rfl, -, -, -⟩ := rows.at_ (n := 1) rfl (by decide)
                    go_wp2_with fail
                    go_ret
                    exact ⟨rfl, X1.out.trans (XB.out.trans (HXr.out.trans (XT.out.trans x3)))⟩
set_option maxRecDepth 100000 in
set_option maxHeartbeats 4000000 in
theorem retireAlone_no (w : World) (t s l b th sl n0 n1 : Int) (h : ¬ GrOk t s l b ∨ th < 0 ∨ t ≤ th ∨ sl < 0 ∨ s ≤ sl) :
    Calls Tryz.prog 4 #[.agg #[.int .i64 t, .int .i64 s, .int .i64 l, .int .i64 b], .agg #[.int .i64 th, .int .i64 sl], .agg #[.int .u8 n0, .int .u8 n1]] w fun e w' => e = .returned (.bool true) ∧ Ext w w' := by
  have X0 := Lib.hid ((((Ext.refl w).alloc (.cells #[.int .i64 t, .int .i64 s, .int .i64 l, .int .i64 b] 23)).alloc (.cells #[.int .i64 th, .int .i64 sl] 61)).alloc (.cells #[.int .u8 n0, .int .u8 n1] 62))
  have B0 : Hid (Blk (((w.alloc (.cells #[.int .i64 t, .int .i64 s, .int .i64 l, .int .i64 b] 23)).alloc (.cells #[.int .i64 th, .int .i64 sl] 61)).alloc (.cells #[.int .u8 n0, .int .u8 n1] 62)) w.heap.size 23 [.int .i64 t, .int .i64 s, .int .i64 l, .int .i64 b]) := Lib.hid (((Blk.new w 23 [.int .i64 t, .int .i64 s, .int .i64 l, .int .i64 b]).ext ((Ext.refl _).alloc (.cells #[.int .i64 th, .int .i64 sl] 61))).ext ((Ext.refl _).alloc (.cells #[.int .u8 n0, .int .u8 n1] 62)))
  have U0 : Hid (Blk (((w.alloc (.cells #[.int .i64 t, .int .i64 s, .int .i64 l, .int .i64 b] 23)).alloc (.cells #[.int .i64 th, .int .i64 sl] 61)).alloc (.cells #[.int .u8 n0, .int .u8 n1] 62)) (w.heap.size + 1) 61 [.int .i64 th, .int .i64 sl]) := Lib.hid (by have := (Blk.new (w.alloc (.cells #[.int .i64 t, .int .i64 s, .int .i64 l, .int .i64 b] 23)) 61 [.int .i64 th, .int .i64 sl]).ext ((Ext.refl _).alloc (.cells #[.int .u8 n0, .int .u8 n1] 62)); rw [World.size_alloc] at this; exact this)
  have V0 : Hid (Blk (((w.alloc (.cells #[.int .i64 t, .int .i64 s, .int .i64 l, .int .i64 b] 23)).alloc (.cells #[.int .i64 th, .int .i64 sl] 61)).alloc (.cells #[.int .u8 n0, .int .u8 n1] 62)) (w.heap.size + 2) 62 [.int .u8 n0, .int .u8 n1]) := Lib.hid (by have := Blk.new ((w.alloc (.cells #[.int .i64 t, .int .i64 s, .int .i64 l, .int .i64 b] 23)).alloc (.cells #[.int .i64 th, .int .i64 sl] 61)) 62 [.int .u8 n0, .int .u8 n1]; rw [World.size_alloc, World.size_alloc] at this; exact this)
  obtain ⟨fe, HFe, hfe⟩ : ∃ fe, Hid (∀ W, Calls Tryz.prog 27 #[.agg #[.int .i64 t, .int .i64 s, .int .i64 l, .int .i64 b]] W fun e w' => (e = .returned (.bool fe)) ∧ Ext W w') ∧ (fe = false ∨ GrOk t s l b) := by
    by_cases hg : GrOk t s l b
    · exact ⟨true, Lib.hid (fun W => few9_yes t s l b W hg), Or.inr hg⟩
    · exact ⟨false, Lib.hid (fun W => few9_no t s l b W hg), Or.inl rfl⟩
  have h2 : fe = false ∨ th < 0 ∨ t ≤ th ∨ sl < 0 ∨ s ≤ sl := by
    rcases hfe with e | e
    · exact Or.inl e
    · rcases h with h | h
      · exact absurd e h
      · exact Or.inr h
  clear h hfe
  obtain ⟨p1, hp1⟩ : ∃ p1, decide (th < 0) = p1 := ⟨_, rfl⟩
  obtain ⟨p2, hp2⟩ : ∃ p2, decide (t ≤ th) = p2 := ⟨_, rfl⟩
  obtain ⟨p3, hp3⟩ : ∃ p3, decide (sl < 0) = p3 := ⟨_, rfl⟩
  obtain ⟨p4, hp4⟩ : ∃ p4, decide (s ≤ sl) = p4 := ⟨_, rfl⟩
  have h3 : fe = false ∨ p1 = true ∨ p2 = true ∨ p3 = true ∨ p4 = true := by
    rcases h2 with h | h | h | h | h
    · exact Or.inl h
    · exact Or.inr (Or.inl (by rw [← hp1]; exact decide_eq_true h))
    · exact Or.inr (Or.inr (Or.inl (by rw [← hp2]; exact decide_eq_true h)))
    · exact Or.inr (Or.inr (Or.inr (Or.inl (by rw [← hp3]; exact decide_eq_true h))))
    · exact Or.inr (Or.inr (Or.inr (Or.inr (by rw [← hp4]; exact decide_eq_true h))))
  clear h2
  go_enter Tryz.func4, Tryz.ntmps4
  go_upto_region 1 with fail
  generalize (((w.alloc (.cells #[.int .i64 t, .int .i64 s, .int .i64 l, .int .i64 b] 23)).alloc (.cells #[.int .i64 th, .int .i64 sl] 61)).alloc (.cells #[.int .u8 n0, .int .u8 n1] 62)) = W0 at *
  have y0 : W0.cell? ⟨w.heap.size, 0, none⟩ = some (.int .i64 t) := (B0.out).cell 0
  have y1 : W0.cell? ⟨w.heap.size, 1, none⟩ = some (.int .i64 s) := (B0.out).cell 1
  have y2 : W0.cell? ⟨w.heap.size, 2, none⟩ = some (.int .i64 l) := (B0.out).cell 2
  have y3 : W0.cell? ⟨w.heap.size, 3, none⟩ = some (.int .i64 b) := (B0.out).cell 3
  have u0 : W0.cell? ⟨w.heap.size + 1, 0, none⟩ = some (.int .i64 th) := (U0.out).cell 0
  have u1 : W0.cell? ⟨w.heap.size + 1, 1, none⟩ = some (.int .i64 sl) := (U0.out).cell 1
  have v0 : W0.cell? ⟨w.heap.size + 2, 0, none⟩ = some (.int .u8 n0) := (V0.out).cell 0
  have v1 : W0.cell? ⟨w.heap.size + 2, 1, none⟩ = some (.int .u8 n1) := (V0.out).cell 1
  go_wp2_with fail
  refine (HFe.out _).mono ?_
  rintro e w1 ⟨rfl, xf⟩
  have X1 := Lib.hid (X0.out.trans xf)
  have B1 := Lib.hid (B0.out.ext xf)
  have U1 := Lib.hid (U0.out.ext xf)
  have V1 := Lib.hid (V0.out.ext xf)
  clear xf y0 y1 y2 y3 u0 u1 v0 v1 X0 B0 U0 V0 HFe
  have y0 : w1.cell? ⟨w.heap.size, 0, none⟩ = some (.int .i64 t) := (B1.out).cell 0
  have y1 : w1.cell? ⟨w.heap.size, 1, none⟩ = some (.int .i64 s) := (B1.out).cell 1
  have y2 : w1.cell? ⟨w.heap.size, 2, none⟩ = some (.int .i64 l) := (B1.out).cell 2
  have y3 : w1.cell? ⟨w.heap.size, 3, none⟩ = some (.int .i64 b) := (B1.out).cell 3
  have u0 : w1.cell? ⟨w.heap.size + 1, 0, none⟩ = some (.int .i64 th) := (U1.out).cell 0
  have u1 : w1.cell? ⟨w.heap.size + 1, 1, none⟩ = some (.int .i64 sl) := (U1.out).cell 1
  have v0 : w1.cell? ⟨w.heap.size + 2, 0, none⟩ = some (.int .u8 n0) := (V1.out).cell 0
  have v1 : w1.cell? ⟨w.heap.size + 2, 1, none⟩ = some (.int .u8 n1) := (V1.out).cell 1
  have fin : ∀ {Z : Prop}, fe = false ∨ p1 = true ∨ p2 = true ∨ p3 = true ∨ p4 = true → (fe = false → Z) → (fe = true → p1 = true → Z) → (fe = true → p1 = false → p2 = true → Z) → (fe = true → p1 = false → p2 = false → p3 = true → Z) → (fe = true → p1 = false → p2 = false → p3 = false → p4 = true → Z) → Z := fun {Z} h a1 a2 a3 a4 a5 => by
    cases fe
    · exact a1 rfl
    · cases p1
      · cases p2
        · cases p3
          · cases p4
            · simp at h
            · exact a5 rfl rfl rfl rfl rfl
          · exact a4 rfl rfl rfl rfl
        · exact a3 rfl rfl rfl
      · exact a2 rfl rfl
  refine fin h3 (fun e0 => ?_) (fun e0 e1 => ?_) (fun e0 e1 e2 => ?_) (fun e0 e1 e2 e3 => ?_) (fun e0 e1 e2 e3 e4 => ?_)
  all_goals
    clear h3 fin
    subst_vars
    go_wp2_with fail
    refine (awake11_ok _).mono ?_
    rintro e w2 ⟨rfl, x2⟩
    have X2 := Lib.hid (X1.out.trans x2)
    clear x2
    go_wp2_with fail
    go_ret
    exact ⟨rfl, X2.out⟩
theorem retireAlone_walk (w : World) (t s l b th sl n0 n1 : Int) (hn0 : 0 ≤ n0 ∧ n0 < 256) (hn1 : 0 ≤ n1 ∧ n1 < 256) :
    Calls Tryz.prog 4 #[.agg #[.int .i64 t, .int .i64 s, .int .i64 l, .int .i64 b], .agg #[.int .i64 th, .int .i64 sl], .agg #[.int .u8 n0, .int .u8 n1]] w fun e w' => e = .returned (.bool true) ∧ Ext w w' := by
  by_cases h : ¬ GrOk t s l b ∨ th < 0 ∨ t ≤ th ∨ sl < 0 ∨ s ≤ sl
  · exact retireAlone_no w t s l b th sl n0 n1 h
  · have hg : GrOk t s l b := Classical.byContradiction (fun c => h (Or.inl c))
    have h1 : ¬ th < 0 := fun c => h (Or.inr (Or.inl c))
    have h2 : ¬ t ≤ th := fun c => h (Or.inr (Or.inr (Or.inl c)))
    have h3 : ¬ sl < 0 := fun c => h (Or.inr (Or.inr (Or.inr (Or.inl c))))
    have h4 : ¬ s ≤ sl := fun c => h (Or.inr (Or.inr (Or.inr (Or.inr c))))
    obtain ⟨⟨q0, q1⟩, ⟨q2, q3⟩, ⟨q4, q5⟩, q6, q7⟩ := id hg.1
    obtain ⟨t', rfl⟩ := Int.eq_ofNat_of_zero_le (show 0 ≤ t by omega)
    obtain ⟨s', rfl⟩ := Int.eq_ofNat_of_zero_le (show 0 ≤ s by omega)
    obtain ⟨l', rfl⟩ := Int.eq_ofNat_of_zero_le (show 0 ≤ l by omega)
    obtain ⟨b', rfl⟩ := Int.eq_ofNat_of_zero_le (show 0 ≤ b by omega)
    obtain ⟨th', rfl⟩ := Int.eq_ofNat_of_zero_le (show 0 ≤ th by omega)
    obtain ⟨sl', rfl⟩ := Int.eq_ofNat_of_zero_le (show 0 ≤ sl by omega)
    exact retireAlone_yes w t' s' l' b' th' sl' n0 n1 hg (by omega) (by omega) hn0 hn1

namespace retireAlone
set_option maxRecDepth 100000 in
theorem lifted (os : Os) (started : os.Started) (H : Type) (enc : TypeId × Value → H) :
    ReturnsInHanded {} Tryz.checked os 4 .any (Rows.retireAloneSpec.pre6 enc Tryz.prog Tryz.f4 Rows.retireAloneRow.domain false) (Rows.retireAloneSpec.post enc Tryz.prog Tryz.f4 false true false false) := by
  refine returnsInHanded_of_change (C := Tryz.checked) own started (by kernel_rfl) Tryz.func4
    (ChangeSpec.witness6 (enc := enc) (C := Tryz.checked) false ⟨#[], #[.agg #[.int .i64 0, .int .i64 0, .int .i64 0, .int .i64 0], .agg #[.int .i64 0, .int .i64 0], .agg #[.int .u8 0, .int .u8 0]], []⟩ 8 (by kernel_rfl) (by kernel_rfl) (by kernel_rfl) (by kernel_rfl)) ?_
  intro W base args ds gs before hval0 hW hcnd _
  have hval : ∀ (j : Nat) t v, Tryz.f4.params[j]? = some t → args[j]? = some v → Value.okWide Tryz.prog W .any base t v := hval0
  have hW' := hW
  obtain ⟨p, q, hA0, hV, rfl, hfz, hnd⟩ := hW
  have hA : DataW.TrodAll enc Tryz.prog W 0 (fun _ => true) true Tryz.f4.params.toList args.toList ds p := hA0
  have hlt : ∀ x ∈ p ++ q, x.block < W.heap.size := fun x hx => hW'.lt x hx
  rw [Tryz.params4] at hA hval
  have hB := hA
  obtain ⟨v0, vs0, d0, ds0, p0, q0, hargs, rfl, rfl, h0, r0⟩ := trodAll_cons hB
  obtain ⟨v1, vs1, d1, ds1, p1, q1, rfl, rfl, rfl, h1, r1⟩ := trodAll_cons r0
  obtain ⟨v2, vs2, d2, ds2, p2, q2, rfl, rfl, rfl, h2, r2⟩ := trodAll_cons r1
  obtain ⟨rfl, rfl, rfl⟩ := trodAll_nil r2
  obtain rfl : args = #[v0, v1, v2] := by cases args; simp_all
  obtain ⟨rfl, rfl⟩ := trodVars_none hV
  obtain ⟨x0t, x0s, x0l, x0b, rfl, ok0⟩ := view_cfg Tryz.underlying23 (by kernel_rfl) (by kernel_rfl) Tryz.underlying3 Tryz.underlying3 Tryz.underlying3 Tryz.underlying3 (hval 0 23 v0 rfl rfl) h0
  obtain ⟨x1a, x1b, rfl, ok1⟩ := view_pair Tryz.underlying61 Tryz.underlying3 (by kernel_rfl) (by kernel_rfl) (hval 1 61 v1 rfl rfl) h1 (okWide_agg_array Tryz.underlying61 (hval 1 61 v1 rfl rfl))
  obtain ⟨x2a, x2b, rfl, ok2a, ok2b⟩ := view_pairK Tryz.underlying62 Tryz.underlying5 (by kernel_rfl) (by kernel_rfl) (hval 2 62 v2 rfl rfl) h2 (okWide_agg_array Tryz.underlying62 (hval 2 62 v2 rfl rfl))
  clear hA0 hval0
  refine (retireAlone_walk W x0t x0s x0l x0b x1a x1b x2a x2b (wf_u8 ok2a) (wf_u8 ok2b)).mono fun e W' ⟨he, hx⟩ => ?_
  subst he
  exact ⟨_, rfl, post_ext (pv := []) hW' (fun _ _ _ => (trodAll_cons_mk (shut_bool Tryz.underlying4 _) trodAll_mk0)) (fun sp hsp => trodAll_stays laid hx _ _ _ _ (readable_of (by kernel_rfl)) hA (fun x hx => hlt x (by first | (simp at hx ⊢; exact hx) | simp at hx)) (fun x hx => hsp x (by first | (simp at hx ⊢; exact hx) | simp at hx))) (fun _ _ => rfl) rfl hx (ok_one (by kernel_rfl) rfl (okWide_bool_mk Tryz.underlying4 _))⟩

theorem over : Rows.retireAloneRow.holds Tryz.pinned (OpenSpec.ofChange Rows.retireAloneSpec) :=
  OpenClaim.holds_of_wide 4 Tryz.f4 rfl rfl rfl rfl rfl rfl rfl ⟨rfl, rfl, rfl, rfl, rfl⟩ rfl rfl rfl rfl rfl (by kernel_rfl) Tryz.func4 retireAlone_closed
    (of_decide_eq_true (by kernel_rfl)) (by unfold Func.isWrapper; first | (rw [if_pos (by decide +kernel)]; kernel_rfl) | (rw [if_neg (by decide +kernel)]; exact ⟨rfl, rfl⟩))
    (fun os started H enc _ => lifted os started H enc)
end retireAlone

theorem retireAlone_holds : Rows.RetireAloneSaid := retireAlone.over
#print axioms retireAlone_holds
end Go.Proofs.YtndplpfbohigpaaGreat
