/- Of Advances from one epoch at most one moves it: the law answers true for every config, epoch and picks, and changes nothing. Conditions: none. -/
import Derived.Test.YtfbobdkfibhcnaaOne1
import Derived.Test.YtfbobdkfibhcnaaArgs
import Derived.Test.YtfbobdkfibhcnaaCfgV
namespace Go.Proofs.Ytfbobdkfibhcnaa
open Go.ChangeShapes Go.WideShapes Go.ChangeAt Go.RowKit
set_option linter.unusedVariables false

theorem ptr_info : (Try.prog.info? 60).map (fun i => (i.zero, i.size, i.bytes)) = some (some (.pointer none), 1, 8) := by kernel_rfl
theorem make_ptrs (n : Nat) (hc : n ≤ 1000000000) (W : World) :
    (Instr.makeSlice 75 (.int .i64 (n : Int)) (.int .i64 (n : Int))).run Try.prog W = .ok (.slice (some ⟨W.heap.size, 0, none⟩) n n) (W.alloc (.cells (madeCells #[.pointer none] n) 60)) := by
  obtain ⟨i, hi, hz0, hz1, hz2⟩ := info_one ptr_info
  have h := run_makeInts (k := .u8) Try.underlying75 hi hz0 hz1 n n (Nat.le_refl _) (by rw [hz2]; omega) (by unfold maxLen; omega) W
  rw [Nat.mul_one] at h
  exact h
theorem made_ptrs (n : Nat) : madeCells #[.pointer none] n = ((List.replicate n (none : Option (Nat × AMs))).map ptrA).toArray := by
  apply Array.ext
  · simp [madeCells]
  · intro i h1 h2
    simp [madeCells, Nat.mod_one, ptrA]
def doneO : Option (Nat × AMs) → Bool
  | none => true
  | some p => p.2.dn
theorem doneO_no {o : Option (Nat × AMs)} (h : doneO o = false) : ∃ p, o = some p ∧ p.2.dn = false := by
  cases o with
  | none => exact absurd h (by decide)
  | some p => exact ⟨p, rfl, h⟩
theorem doneO_ok (w : World) (o : Option (Nat × AMs)) (h : ∀ p, o = some p → w.cell? ⟨p.1, 2, none⟩ = some (.bool p.2.dn)) : Calls Try.prog 30 #[ptrA o] w fun e w' => e = .returned (.bool (doneO o)) ∧ w = w' := by
  cases o with
  | none => exact doneAdvance_nil w
  | some p => exact doneAdvance_ok w p.1 p.2.dn (h p rfl)
/-- What holds of several Advances between one another. -/
structure OneInv (t s l b : Nat) (E : Int) (hs : Hs) (st : MSt) : Prop where
  ok : MOk (2 + t + s) (wN t s l b) st
  e : peekV st (-1) = E
  m : ∀ (t' : Nat) (p : Nat × AMs), hs[t']? = some (some p) → p.2.dn = false → p.2.mv = false
theorem OneInv.set {t s l b : Nat} {E E' : Int} {hs : Hs} {st st' : MSt} (h : OneInv t s l b E hs st) {j : Nat} {p : Nat × AMs} (hj : j < hs.length) (ok : MOk (2 + t + s) (wN t s l b) st') (e : peekV st' (-1) = E') (hp : p.2.dn = false → p.2.mv = false) : OneInv t s l b E' (hs.set j (some p)) st' :=
  ⟨ok, e, fun t' q hq hd => by
    rw [set_get _ _ _ _ hj] at hq
    by_cases e' : t' = j
    · rw [if_pos e'] at hq
      injection hq with hq
      injection hq with hq
      subst hq
      exact hp hd
    · rw [if_neg e'] at hq
      exact h.m t' q hq hd⟩
theorem one_put {w : World} (fi : Int) (hf : 0 ≤ fi ∧ fi < 4294967296) : PutsAt (w.alloc (.cells #[.int .i64 (-1), .int .u64 fi] 59)) (some ⟨w.heap.size, 0, none⟩) [(-1, fi)] := fun _ => by
  have b := Blk.new w 59 [.int .i64 (-1), .int .u64 fi]
  refine ⟨⟨w.heap.size, 0, none⟩, rfl, b.lt, fun i hi => ?_⟩
  have hi0 : i = 0 := by simpa using hi
  subst hi0
  exact ⟨⟨b.cell 0, b.cell 1⟩, ⟨by show (-9223372036854775808 : Int) ≤ -1; decide, by show (-1 : Int) < 9223372036854775808; decide⟩, ⟨hf.1, by show fi < _; omega⟩⟩
theorem one_start {t s l b : Nat} (fi : Int) : OneInv t s l b fi (List.replicate t none) (groundSt t s l b [(-1, fi)]) := by
  have ok := MOk.start t s l b
  refine ⟨ok.putAll _, ?_, fun t' p h _ => ?_⟩
  · show peekV ((startSt t s l b).store 0 (-1) fi) (-1) = fi
    rw [peekV_store ok (ok.is (by omega) (by omega)), if_pos rfl]
  · rw [List.getElem?_replicate] at h
    split at h <;> simp at h
theorem at_none {t t' : Nat} {p : Nat × AMs} : (List.replicate t (none : Option (Nat × AMs)))[t']? ≠ some (some p) := by
  rw [List.getElem?_replicate]
  split <;> simp
set_option maxRecDepth 100000 in
set_option maxHeartbeats 8000000 in
theorem epochOne_yes (w : World) (A : Option Addr) (n c : Nat) (t s l b : Nat) (fi : Int) (hf : 0 ≤ fi ∧ fi < 4294967296) (zs : List Int) (hl : zs.length = n) (hn : n ≤ 300) (hA : Ints w .u8 A zs) (hz : Lim zs 256) (hg : GrOk t s l b) :
    Calls Try.prog 8 #[.agg #[.int .i64 t, .int .i64 s, .int .i64 l, .int .i64 b], .int .u32 fi, .slice A n c] w fun e w' => e = .returned (.bool true) ∧ Ext w w' := by
  have X0 := Lib.hid ((Ext.refl w).alloc (.cells #[.int .i64 t, .int .i64 s, .int .i64 l, .int .i64 b] 23))
  have B0 := Lib.hid (Blk.new w 23 [.int .i64 t, .int .i64 s, .int .i64 l, .int .i64 b])
  have HY := Lib.hid (fun W => few9_yes t s l b W hg)
  have HI := Lib.hid hA
  have HZ := Lib.hid hz
  have HL := Lib.hid hl
  have HLa : Hid (∀ W A' c', PutsAt W A' [(-1, fi)] → Calls Try.prog 12 #[.agg #[.int .i64 t, .int .i64 s, .int .i64 l, .int .i64 b, .slice A' 1 c']] W (GrNew W t s l b [(-1, fi)])) := Lib.hid (fun W A' c' h => lay_ok W A' 1 c' t s l b [(-1, fi)] hg rfl (by decide) h)
  have HPu := Lib.hid (fun (W : World) => one_put (w := W) fi hf)
  have HSt := Lib.hid (one_start (t := t) (s := s) (l := l) (b := b) fi)
  have hcal := putAll_calm (s := startSt t s l b) rfl rfl [(-1, fi)] 1 (Nat.le_refl _)
  have HCa : Hid (CalmN 1 (groundSt t s l b [(-1, fi)])) := Lib.hid hcal
  obtain ⟨hc, h1, h2, h3, h4⟩ := id hg
  obtain ⟨⟨q0, q1⟩, ⟨q2, q3⟩, ⟨q4, q5⟩, q6, q7⟩ := id hc
  have HOk := Lib.hid (okayF hc)
  have HF0 : Hid (layF t s l b 0 = (t : Int)) := Lib.hid rfl
  have HF21 : Hid (layF t s l b 21 = -1) := Lib.hid rfl
  have t1 : 1 ≤ t := by omega
  have t6 : t ≤ 6 := by omega
  have hmk := fun W => make_ptrs t (by omega) W
  have HMd := Lib.hid (made_ptrs t)
  generalize madeCells #[.pointer none] t = MW at *
  have FI := Lib.hid hf
  have wfi : IntKind.u64.wrap fi = fi := u64w fi hf.1 (by omega)
  have d300 : decide (300 < n) = false := by simp; omega
  have d300' : decide ((300 : Int) < (n : Int)) = false := by simp; omega
  clear hA hz hl hcal hg hc h1 h2 h3 h4 q0 q1 q2 q3 q4 q5 q6 q7 hf
  go_enter Try.func8, Try.ntmps8
  go_upto_region 1 with fail
  generalize w.alloc (.cells #[.int .i64 t, .int .i64 s, .int .i64 l, .int .i64 b] 23) = W0 at *
  have y0 : W0.cell? ⟨w.heap.size, 0, none⟩ = some (.int .i64 t) := B0.out.cell 0
  have y1 : W0.cell? ⟨w.heap.size, 1, none⟩ = some (.int .i64 s) := B0.out.cell 1
  have y2 : W0.cell? ⟨w.heap.size, 2, none⟩ = some (.int .i64 l) := B0.out.cell 2
  have y3 : W0.cell? ⟨w.heap.size, 3, none⟩ = some (.int .i64 b) := B0.out.cell 3
  go_wp2_with fail
  refine (HY.out _).mono ?_
  rintro e w1 ⟨rfl, x1⟩
  have X1 := Lib.hid (X0.out.trans x1)
  have B1 := Lib.hid (B0.out.ext x1)
  clear x1 y0 y1 y2 y3 X0 B0 HY
  have y0 : w1.cell? ⟨w.heap.size, 0, none⟩ = some (.int .i64 t) := B1.out.cell 0
  have y1 : w1.cell? ⟨w.heap.size, 1, none⟩ = some (.int .i64 s) := B1.out.cell 1
  have y2 : w1.cell? ⟨w.heap.size, 2, none⟩ = some (.int .i64 l) := B1.out.cell 2
  have y3 : w1.cell? ⟨w.heap.size, 3, none⟩ = some (.int .i64 b) := B1.out.cell 3
  go_upto_region 3 with fail
  clear d300 d300'
  go_wp2_with fail
  have X2 := Lib.hid (X1.out.alloc (.cells #[.int .i64 (-1), .int .u64 fi] 59))
  have B2 := Lib.hid (B1.out.ext ((Ext.refl w1).alloc (.cells #[.int .i64 (-1), .int .u64 fi] 59)))
  have HLa2 := Lib.hid (HLa.out (w1.alloc (.cells #[.int .i64 (-1), .int .u64 fi] 59)) (some ⟨w1.heap.size, 0, none⟩) 1 (HPu.out w1))
  generalize w1.alloc (.cells #[.int .i64 (-1), .int .u64 fi] 59) = W2 at *
  clear y0 y1 y2 y3 X1 B1 HLa HPu
  refine HLa2.out.mono ?_
  rintro e w3 ⟨gl, gm, dv, pv, g, R, rv, rfl, bl, gr⟩
  have B3 := Lib.hid (B2.out.ext gr.mem.lt.1)
  have BL := Lib.hid bl
  have GR := Lib.hid gr
  clear bl gr HLa2
  have y0 : w3.cell? ⟨w.heap.size, 0, none⟩ = some (.int .i64 t) := B3.out.cell 0
  have y1 : w3.cell? ⟨w.heap.size, 1, none⟩ = some (.int .i64 s) := B3.out.cell 1
  have y2 : w3.cell? ⟨w.heap.size, 2, none⟩ = some (.int .i64 l) := B3.out.cell 2
  have y3 : w3.cell? ⟨w.heap.size, 3, none⟩ = some (.int .i64 b) := B3.out.cell 3
  go_wp2_with fail
  have x4 := (Ext.refl w3).alloc (.cells MW 60)
  have A4 : Hid (OneAt W2 (w3.alloc (.cells MW 60)) gm dv pv gl w3.heap.size t (layF t s l b) (List.replicate t none) (groundSt t s l b [(-1, fi)])) := Lib.hid (by
    have hbl := BL.out.lt
    have bh := Blk.new w3 60 ((List.replicate t (none : Option (Nat × AMs))).map ptrA)
    rw [← HMd.out] at bh
    refine ⟨GR.out.mem.hold x4 (fun q hq => ?_), BL.out.ext x4, bh, fun t' p h => absurd h at_none, fun t1 t2 p1 p2 h => absurd h at_none, by simp, by omega, GR.out.mem.lt.1.size⟩
    rcases hq with e | e | ⟨t', p, e, _⟩
    · rw [e]; exact ⟨by simp; omega, Or.inl (Or.inr rfl)⟩
    · rw [e]; exact ⟨by simp, Or.inr (Nat.le_refl _)⟩
    · exact absurd e at_none)
  generalize w3.alloc (.cells MW 60) = W4 at *
  generalize w3.heap.size = gh at *
  clear x4 hmk HMd y0 y1 y2 y3 B3 BL GR
  go_loopw [12, 13] (fun mv i wr => ∃ (k j : Nat) (hs : Hs) (sk : MSt), k ≤ n ∧ j ≤ k ∧ i = .int .i64 k ∧ mv = .int .u64 (j : Int) ∧ OneAt W2 wr gm dv pv gl gh t (layF t s l b) hs sk ∧ OneInv t s l b (fi + (j : Int)) hs sk ∧ CalmN (1 + (k : Int)) sk) (fun _ i _ => n - (intOf i).toNat)
  case atStart => exact ⟨0, 0, _, _, Nat.zero_le _, Nat.le_refl _, rfl, rfl, A4.out, by simpa using HSt.out, by simpa using HCa.out⟩
  case round =>
    obtain ⟨k, j, hs, sk, hk, hjk, rfl, rfl, ha, hi, hca⟩ := hrel
    have HA := Lib.hid ha
    have HIn := Lib.hid hi
    have HC := Lib.hid hca
    have HB := Lib.hid (B2.out.ext ha.m.lt.1)
    have XK := Lib.hid (X2.out.trans ha.m.lt.1)
    clear ha hi hca A4 HSt HCa
    by_cases hlt : k < n
    · have v1 : decide (k < n) = true := by simp; omega
      obtain ⟨ad, hAd, _, hcc⟩ := (HI.out.ext XK.out) (by have := HL.out; omega)
      have p0 := hcc k (by have := HL.out; omega)
      have zr := HZ.out k (by have := HL.out; omega)
      generalize zs.getD k 0 = z at *
      obtain ⟨zn, rfl⟩ := Int.eq_ofNat_of_zero_le zr.1
      subst hAd
      clear hcc
      have y0 : wr.cell? ⟨w.heap.size, 0, none⟩ = some (.int .i64 t) := HB.out.cell 0
      have y1 : wr.cell? ⟨w.heap.size, 1, none⟩ = some (.int .i64 s) := HB.out.cell 1
      have y2 : wr.cell? ⟨w.heap.size, 2, none⟩ = some (.int .i64 l) := HB.out.cell 2
      have y3 : wr.cell? ⟨w.heap.size, 3, none⟩ = some (.int .i64 b) := HB.out.cell 3
      obtain ⟨tt, htt⟩ : ∃ tt, zn % t = tt := ⟨_, rfl⟩
      have hm0 : ((zn : Int)).tmod (t : Int) = (tt : Int) := by
        rw [Int.tmod_eq_emod_of_nonneg (by omega), ← htt]
        rfl
      have htl : tt < t := by rw [← htt]; exact Nat.mod_lt _ (by omega)
      have ht0 : ((t : Int) == 0) = false := by rw [beq_eq_false_iff_ne]; omega
      have ht0' : ¬ (t : Int) = 0 := by omega
      clear htt
      go_wp2_with fail
      go_quiet (fail)
      go_upto_region 10 with fail
      have xq := ext_drewN (Ext.refl wr) nq
      have HAq := Lib.hid (HA.out.ext xq)
      clear xq HA HB XK p0 y0 y1 y2 y3 hm0
      generalize wr.drewN nq = wq at *
      obtain ⟨o, ho⟩ : ∃ o, hs[tt]? = some o := ⟨hs[tt]'(by rw [HAq.out.len]; exact htl), List.getElem?_eq_getElem _⟩
      have HO := Lib.hid ho
      obtain ⟨V, hV⟩ : ∃ V, ptrA o = V := ⟨_, rfl⟩
      have HV := Lib.hid hV
      have hcell : wq.cell? ⟨gh, tt, none⟩ = some V := by rw [HAq.out.h.cell tt, List.getElem?_map, ho, ← hV]; rfl
      have HD := doneO_ok wq o (fun p e => by subst e; exact (HAq.out.a tt p ho).1.cell 2)
      rw [hV] at HD
      obtain ⟨d, hd⟩ : ∃ d, doneO o = d := ⟨_, rfl⟩
      rw [hd] at HD
      have HDd := Lib.hid hd
      have HDn := Lib.hid HD
      clear ho hV hd HD
      go_wp2_with fail
      refine HDn.out.mono ?_
      rintro e w' ⟨rfl, rfl⟩
      clear HDn
      go_upto_if 59 with fail
      go_cut [14] (fun s14 wx => s14 = .int .i64 (tt : Int) ∧ ∃ (hs' : Hs) (p : Nat × AMs), hs'[tt]? = some (some p) ∧ p.2.dn = false ∧ OneAt W2 wx gm dv pv gl gh t (layF t s l b) hs' sk ∧ OneInv t s l b (fi + (j : Int)) hs' sk)
      case first =>
        cases d
        · obtain ⟨p, e1, e2⟩ := doneO_no HDd.out
          have HQ : Hid (hs[tt]? = some (some p)) := Lib.hid (by rw [HO.out, e1])
          have HQ2 := Lib.hid e2
          clear e1 e2 hcell
          go_wp2_with fail
          go_meet
          exact ⟨rfl, hs, p, HQ.out, HQ2.out, HAq.out, HIn.out⟩
        · clear hcell
          go_wp2_with fail
          refine (newAdvance_ok _ gl (tt : Int)).mono ?_
          rintro e w6 ⟨g6, rfl, l6, b6, x6⟩
          have hgc : w6.cell? ⟨gh, tt, none⟩ = some V := by rw [(HAq.out.h.ext x6).cell tt, List.getElem?_map, HO.out, ← HV.out]; rfl
          have hgz : w6.frozen? ⟨gh, tt, none⟩ = false := (HAq.out.h.ext x6).frozen tt
          have NN := Lib.hid (HAq.out.make x6 htl l6 b6)
          have NI := Lib.hid (HIn.out.set (E' := fi + (j : Int)) (st' := sk) (j := tt) (p := (g6, ⟨false, false, 0, 0, false⟩)) (by rw [HAq.out.len]; exact htl) HIn.out.ok HIn.out.e (fun _ => rfl))
          have NG : Hid ((hs.set tt (some (g6, (⟨false, false, 0, 0, false⟩ : AMs))))[tt]? = some (some (g6, ⟨false, false, 0, 0, false⟩))) := Lib.hid (by rw [set_get _ _ _ _ (by rw [HAq.out.len]; exact htl), if_pos rfl])
          clear l6 b6 x6
          go_wp2_with fail
          go_meet
          exact ⟨rfl, _, _, NG.out, rfl, NN.out, NI.out⟩
      case rest =>
        obtain ⟨rfl, hs', p, hp, hd, ha, hi⟩ := hcut
        generalize wc = w7 at *
        obtain ⟨gp, x⟩ := p
        have HA7 := Lib.hid ha
        have HI7 := Lib.hid hi
        have HP7 := Lib.hid hp
        obtain ⟨bx, wfx, nl, nh, lo⟩ := ha.a tt (gp, x) hp
        have hcl : w7.cell? ⟨gh, tt, none⟩ = some (.pointer (some ⟨gp, 0, none⟩)) := by rw [ha.h.cell tt, List.getElem?_map, hp]; rfl
        have HS := advStep_ok ha.m (HC.out.calm (by omega)) HOk.out wfx (by omega) HF21.out HF0.out bx ha.l (Or.inr (Or.inr ⟨tt, (gp, x), hp, rfl⟩)) (Or.inl rfl) nl.symm lo
        have HM := advS_one (F := layF t s l b) (t := (tt : Int)) hi.ok (by omega) hi.e (by have := FI.out; exact ⟨by omega, by omega⟩) HC.out wfx hd (hi.m tt _ hp hd)
        clear ha hi hp hd bx wfx nl nh lo HAq HIn
        generalize advS (layF t s l b) t (tt : Int) x sk = r at *
        obtain ⟨y, s'⟩ := r
        obtain ⟨m1, m2, m3, m4, m5⟩ := HM
        have HM1 := Lib.hid m1
        have HM2 := Lib.hid m2
        have HC8 := Lib.hid m3
        have HM4 := Lib.hid m4
        have HM5 := Lib.hid m5
        have HS8 := Lib.hid HS
        clear m1 m2 m3 m4 m5 HS
        go_wp2_with fail
        refine HS8.out.mono ?_
        rintro e w8 ⟨rfl, m8, b8, k8⟩
        have HA8 := Lib.hid (HA7.out.step HP7.out HM4.out m8 b8 k8)
        have hltt : tt < hs'.length := by rw [HA7.out.len]; exact htl
        have b6 : w8.cell? ⟨gp, 6, none⟩ = some (.bool y.mv) := b8.cell 6
        have hc8 : w8.cell? ⟨gh, tt, none⟩ = some (.pointer (some ⟨gp, 0, none⟩)) := by
          rw [HA8.out.h.cell tt, List.getElem?_map, set_get _ _ _ _ hltt, if_pos rfl]
          rfl
        have HMv := Lib.hid (moved_ok w8 gp y.mv b6)
        clear m8 b8 k8 HS8 b6
        obtain ⟨dn, ld, ep, asked, mv⟩ := y
        cases dn
        · have HE8 : Hid (peekV s' (-1) = fi + (j : Int)) := Lib.hid (by have := HM2.out; simpa using this)
          have HI8 := Lib.hid (HI7.out.set (E' := fi + (j : Int)) (st' := s') hltt (p := (gp, ⟨false, ld, ep, asked, mv⟩)) HM1.out HE8.out HM5.out)
          clear hltt
          have hpe := HA8.out.m.peek (-1) (by decide) (by decide)
          rw [HE8.out] at hpe
          have HPe := Lib.hid hpe
          clear hpe
          have dE : (fi + (j : Int) != fi + (j : Int)) = false := by simp
          have wE : IntKind.u64.wrap (fi + (j : Int)) = fi + (j : Int) := u64w _ (by have := FI.out; omega) (by have := FI.out; omega)
          go_wp2_with fail
          refine HPe.out.mono ?_
          rintro e w' ⟨rfl, rfl⟩
          go_wp2_with fail
          go_roundw
          case rel => exact ⟨k + 1, j, _, s', by omega, by omega, by go_num, by go_num, HA8.out, by skip; exact HI8.out, by rw [show (1 : Int) + ((k + 1 : Nat) : Int) = 1 + (k : Int) + 1 by omega]; exact HC8.out⟩
          case measure => simp [intOf]; omega
        · cases mv
          · have HE8 : Hid (peekV s' (-1) = fi + (j : Int)) := Lib.hid (by have := HM2.out; simpa using this)
            have HI8 := Lib.hid (HI7.out.set (E' := fi + (j : Int)) (st' := s') hltt (p := (gp, ⟨true, ld, ep, asked, false⟩)) HM1.out HE8.out HM5.out)
            clear hltt
            go_wp2_with fail
            refine HMv.out.mono ?_
            rintro e w' ⟨rfl, rfl⟩
            have hpe := HA8.out.m.peek (-1) (by decide) (by decide)
            rw [HE8.out] at hpe
            have HPe := Lib.hid hpe
            clear hpe
            have dE : (fi + (j : Int) != fi + (j : Int)) = false := by simp
            have wE : IntKind.u64.wrap (fi + (j : Int)) = fi + (j : Int) := u64w _ (by have := FI.out; omega) (by have := FI.out; omega)
            go_wp2_with fail
            refine HPe.out.mono ?_
            rintro e w' ⟨rfl, rfl⟩
            go_wp2_with fail
            go_roundw
            case rel => exact ⟨k + 1, j, _, s', by omega, by omega, by go_num, by go_num, HA8.out, by skip; exact HI8.out, by rw [show (1 : Int) + ((k + 1 : Nat) : Int) = 1 + (k : Int) + 1 by omega]; exact HC8.out⟩
            case measure => simp [intOf]; omega
          · have HE8 : Hid (peekV s' (-1) = fi + ((j : Int) + 1)) := Lib.hid (by
              have h2 : peekV s' (-1) = next64 (fi + (j : Int)) := by have := HM2.out; simpa using this
              rw [h2]
              unfold next64
              have := FI.out
              omega)
            have HI8 := Lib.hid (HI7.out.set (E' := fi + ((j : Int) + 1)) (st' := s') hltt (p := (gp, ⟨true, ld, ep, asked, true⟩)) HM1.out HE8.out HM5.out)
            clear hltt
            go_wp2_with fail
            refine HMv.out.mono ?_
            rintro e w' ⟨rfl, rfl⟩
            have hpe := HA8.out.m.peek (-1) (by decide) (by decide)
            rw [HE8.out] at hpe
            have HPe := Lib.hid hpe
            clear hpe
            have dE : (fi + ((j : Int) + 1) != fi + ((j : Int) + 1)) = false := by simp
            have wE : IntKind.u64.wrap (fi + ((j : Int) + 1)) = fi + ((j : Int) + 1) := u64w _ (by have := FI.out; omega) (by have := FI.out; omega)
            have wJ : IntKind.u64.wrap ((j : Int) + 1) = (j : Int) + 1 := u64w _ (by omega) (by omega)
            go_wp2_with fail
            refine HPe.out.mono ?_
            rintro e w' ⟨rfl, rfl⟩
            go_wp2_with fail
            go_roundw
            case rel => exact ⟨k + 1, j + 1, _, s', by omega, by omega, by go_num, by go_num, HA8.out, by rw [show ((j + 1 : Nat) : Int) = (j : Int) + 1 by omega]; exact HI8.out, by rw [show (1 : Int) + ((k + 1 : Nat) : Int) = 1 + (k : Int) + 1 by omega]; exact HC8.out⟩
            case measure => simp [intOf]; omega
    · have v1 : decide (k < n) = false := by simp; omega
      go_wp2_with fail
      refine (awake10_ok _).mono ?_
      rintro e w5 ⟨rfl, x5⟩
      have X5 := Lib.hid (XK.out.trans x5)
      clear x5
      go_wp2_with fail
      go_ret
      exact ⟨rfl, X5.out⟩
set_option maxRecDepth 100000 in
set_option maxHeartbeats 4000000 in
theorem epochOne_no (w : World) (A : Option Addr) (n c : Nat) (t s l b fi : Int) (h : ¬ GrOk t s l b ∨ 300 < n) (hn : n ≤ 9223372036854775807) :
    Calls Try.prog 8 #[.agg #[.int .i64 t, .int .i64 s, .int .i64 l, .int .i64 b], .int .u32 fi, .slice A n c] w fun e w' => e = .returned (.bool true) ∧ Ext w w' := by
  have X0 := Lib.hid ((Ext.refl w).alloc (.cells #[.int .i64 t, .int .i64 s, .int .i64 l, .int .i64 b] 23))
  by_cases hg : GrOk t s l b
  · have h3 : 300 < n := h.resolve_left (fun k => k hg)
    have HY := Lib.hid (fun W => few9_yes t s l b W hg)
    have d3 : decide (300 < n) = true := by simp; omega
    have d3' : decide ((300 : Int) < (n : Int)) = true := by simp; omega
    clear h hg
    go_enter Try.func8, Try.ntmps8
    go_wp2_with fail
    refine (HY.out _).mono ?_
    rintro e w1 ⟨rfl, x1⟩
    have X1 := Lib.hid (X0.out.trans x1)
    clear x1
    go_wp2_with fail
    refine (awake10_ok _).mono ?_
    rintro e w2 ⟨rfl, x2⟩
    have X2 := Lib.hid (X1.out.trans x2)
    clear x2
    go_wp2_with fail
    go_ret
    exact ⟨rfl, X2.out⟩
  · have HY := Lib.hid (fun W => few9_no t s l b W hg)
    clear h hg
    go_enter Try.func8, Try.ntmps8
    go_wp2_with fail
    refine (HY.out _).mono ?_
    rintro e w1 ⟨rfl, x1⟩
    have X1 := Lib.hid (X0.out.trans x1)
    clear x1
    go_wp2_with fail
    refine (awake10_ok _).mono ?_
    rintro e w2 ⟨rfl, x2⟩
    have X2 := Lib.hid (X1.out.trans x2)
    clear x2
    go_wp2_with fail
    go_ret
    exact ⟨rfl, X2.out⟩
theorem epochOne_walk (w : World) (t s l b : Int) (fi : Int) (hf : 0 ≤ fi ∧ fi < 4294967296) (A : Option Addr) (n c : Nat) (zs : List Int) (hl : zs.length = n) (hn : n ≤ 9223372036854775807) (hA : Ints w .u8 A zs) (hz : Lim zs 256) :
    Calls Try.prog 8 #[.agg #[.int .i64 t, .int .i64 s, .int .i64 l, .int .i64 b], .int .u32 fi, .slice A n c] w fun e w' => e = .returned (.bool true) ∧ Ext w w' := by
  by_cases h : GrOk t s l b ∧ n ≤ 300
  · obtain ⟨hg, hn1⟩ := h
    obtain ⟨⟨q0, q1⟩, ⟨q2, q3⟩, ⟨q4, q5⟩, q6, q7⟩ := id hg.1
    obtain ⟨t', rfl⟩ := Int.eq_ofNat_of_zero_le (show 0 ≤ t by omega)
    obtain ⟨s', rfl⟩ := Int.eq_ofNat_of_zero_le (show 0 ≤ s by omega)
    obtain ⟨l', rfl⟩ := Int.eq_ofNat_of_zero_le (show 0 ≤ l by omega)
    obtain ⟨b', rfl⟩ := Int.eq_ofNat_of_zero_le (show 0 ≤ b by omega)
    exact epochOne_yes w A n c t' s' l' b' fi hf zs hl hn1 hA hz hg
  · exact epochOne_no w A n c t s l b fi (by
      by_cases hg : GrOk t s l b
      · exact Or.inr (by
          have : ¬ n ≤ 300 := fun h2 => h ⟨hg, h2⟩
          omega)
      · exact Or.inl hg) hn

namespace epochOne
set_option maxRecDepth 100000 in
theorem lifted (os : Os) (started : os.Started) (H : Type) (enc : TypeId × Value → H) :
    ReturnsInHanded {} Try.checked os 8 .any (Rows.epochOneSpec.pre6 enc Try.prog Try.f8 Rows.epochOneRow.domain false) (Rows.epochOneSpec.post enc Try.prog Try.f8 false true false false) := by
  refine returnsInHanded_of_change (C := Try.checked) own started (by kernel_rfl) Try.func8
    (ChangeSpec.witness6 (enc := enc) (C := Try.checked) false ⟨#[], #[.agg #[.int .i64 0, .int .i64 0, .int .i64 0, .int .i64 0], .int .u32 0, .slice none 0 0], []⟩ 8 (by kernel_rfl) (by kernel_rfl) (by kernel_rfl) (by kernel_rfl)) ?_
  intro W base args ds gs before hval0 hW hcnd _
  have hval : ∀ (j : Nat) t v, Try.f8.params[j]? = some t → args[j]? = some v → Value.okWide Try.prog W .any base t v := hval0
  have hW' := hW
  obtain ⟨p, q, hA0, hV, rfl, hfz, hnd⟩ := hW
  have hA : DataW.TrodAll enc Try.prog W 0 (fun _ => true) true Try.f8.params.toList args.toList ds p := hA0
  have hlt : ∀ x ∈ p ++ q, x.block < W.heap.size := fun x hx => hW'.lt x hx
  rw [Try.params8] at hA hval
  have hB := hA
  obtain ⟨v0, vs0, d0, ds0, p0, q0, hargs, rfl, rfl, h0, r0⟩ := trodAll_cons hB
  obtain ⟨v1, vs1, d1, ds1, p1, q1, rfl, rfl, rfl, h1, r1⟩ := trodAll_cons r0
  obtain ⟨v2, vs2, d2, ds2, p2, q2, rfl, rfl, rfl, h2, r2⟩ := trodAll_cons r1
  obtain ⟨rfl, rfl, rfl⟩ := trodAll_nil r2
  obtain rfl : args = #[v0, v1, v2] := by cases args; simp_all
  obtain ⟨rfl, rfl⟩ := trodVars_none hV
  obtain ⟨x0t, x0s, x0l, x0b, rfl, ok0⟩ := view_cfg Try.underlying23 (by kernel_rfl) (by kernel_rfl) Try.underlying3 Try.underlying3 Try.underlying3 Try.underlying3 (hval 0 23 v0 rfl rfl) h0
  obtain ⟨a1, rfl, rfl, rfl, w1⟩ := open_int Try.underlying74 (hval 1 74 v1 rfl rfl) h1
  obtain ⟨A2, c2, z2, rfl, lc2, mc2, I2, w2⟩ := view_ints Try.underlying45 Try.underlying5 (by kernel_rfl) (hval 2 45 v2 rfl rfl) h2
  clear hA0 hval0
  refine (epochOne_walk W x0t x0s x0l x0b a1 (wf_u32 w1) A2 _ c2 z2 rfl (Nat.le_trans lc2 mc2) I2 (lim_u8 w2)).mono fun e W' ⟨he, hx⟩ => ?_
  subst he
  exact ⟨_, rfl, post_ext (pv := []) hW' (fun _ _ _ => (trodAll_cons_mk (shut_bool Try.underlying4 _) trodAll_mk0)) (fun sp hsp => trodAll_stays laid hx _ _ _ _ (readable_of (by kernel_rfl)) hA (fun x hx => hlt x (by first | (simp at hx ⊢; exact hx) | simp at hx)) (fun x hx => hsp x (by first | (simp at hx ⊢; exact hx) | simp at hx))) (fun _ _ => rfl) rfl hx (ok_one (by kernel_rfl) rfl (okWide_bool_mk Try.underlying4 _))⟩

theorem over : Rows.epochOneRow.holds Try.pinned (OpenSpec.ofChange Rows.epochOneSpec) :=
  OpenClaim.holds_of_wide 8 Try.f8 rfl rfl rfl rfl rfl rfl rfl ⟨rfl, rfl, rfl, rfl, rfl⟩ rfl rfl rfl rfl rfl (by kernel_rfl) Try.func8 (by kernel_rfl)
    (of_decide_eq_true (by kernel_rfl)) (by unfold Func.isWrapper; first | (rw [if_pos (by decide +kernel)]; kernel_rfl) | (rw [if_neg (by decide +kernel)]; exact ⟨rfl, rfl⟩))
    (fun os started H enc _ => lifted os started H enc)
end epochOne

theorem epochOne_holds : Rows.EpochOneSaid := epochOne.over
#print axioms epochOne_holds
end Go.Proofs.Ytfbobdkfibhcnaa
