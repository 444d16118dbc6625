/- The lasting words of a config are laid. Conditions: those that each theorem names. -/
import Derived.Test.YtolengkegjipaaaGreatKLayA
import Derived.IntWalk
namespace Go.Proofs.YtolengkegjipaaaGreat
open Go.ChangeShapes Go.WideShapes Go.ChangeAt Go.RowKit
set_option linter.unusedVariables false
set_option maxRecDepth 100000 in
set_option maxHeartbeats 8000000 in
theorem layLasting_any (t s l b nb nl : Int) (g : Nat) (w : World) (hg : Blk w g 97 [.int .i64 t, .int .i64 s, .int .i64 l, .int .i64 b, .int .i64 0, .int .i64 0, .int .i64 0, .int .i64 0, .int .i64 0, .int .i64 0, .int .i64 0, .int .i64 0, .int .i64 0, .int .i64 0, .int .i64 0, .int .i64 0, .int .i64 0, .int .i64 0, .int .i64 0, .int .i64 0, .int .i64 0, .int .i64 0, .int .i64 0, .int .i64 0, .int .i64 0, .int .i64 0, .int .i64 0, .int .i64 0, .int .i64 0])
    (hb : (0 ≤ t ∧ t ≤ 64) ∧ (0 ≤ s ∧ s ≤ 65536) ∧ (0 ≤ l ∧ l ≤ 64) ∧ (0 ≤ b ∧ b ≤ 64))
    (n0 : 0 ≤ nb) (n1 : nb ≤ 8) (m0 : 0 ≤ nl) (m1 : nl ≤ 8) (p0 : 0 ≤ t * nl) (p1 : t * nl ≤ 512)
    (HLb : Hid (∀ W, Calls Tryz.prog 65 #[.int .i64 b] W fun e w' => e = .returned (.int .i64 nb) ∧ W = w')) (HLl : Hid (∀ W, Calls Tryz.prog 65 #[.int .i64 l] W fun e w' => e = .returned (.int .i64 nl) ∧ W = w')) :
    Calls Tryz.prog 42 #[.pointer (some ⟨g, 0, none⟩)] w fun e w' => e = .returned (.tuple #[]) ∧ Blk w' g 97 [.int .i64 t, .int .i64 s, .int .i64 l, .int .i64 b, .int .i64 (5 + nb + t + t * nl + s), .int .i64 0, .int .i64 16, .int .i64 24, .int .i64 32, .int .i64 40, .int .i64 1, .int .i64 b, .int .i64 ((5 + nb) * 8), .int .i64 8, .int .i64 t, .int .i64 ((5 + nb + t) * 8), .int .i64 (nl * 8), .int .i64 t, .int .i64 ((5 + nb + t + t * nl) * 8), .int .i64 8, .int .i64 s, .int .i64 0, .int .i64 0, .int .i64 0, .int .i64 0, .int .i64 0, .int .i64 0, .int .i64 0, .int .i64 0] ∧ Fr (· = g) w w' := by
  have hmf : ∀ (fn : Fn) (first cap : Array Value) (w : World), (Instr.makeFunc fn first cap).run Tryz.prog w = .ok (.func fn first cap) w := fun _ _ _ _ => rfl
  have c0 : w.cell? ⟨g, 0, none⟩ = some (.int .i64 t) := hg.cell 0
  have c1 : w.cell? ⟨g, 1, none⟩ = some (.int .i64 s) := hg.cell 1
  have c2 : w.cell? ⟨g, 2, none⟩ = some (.int .i64 l) := hg.cell 2
  have c3 : w.cell? ⟨g, 3, none⟩ = some (.int .i64 b) := hg.cell 3
  have hgl := hg.lt
  have hgn : ¬ g = w.heap.size := by omega
  have HG := Lib.hid hg
  clear hg
  obtain ⟨⟨t0, t1⟩, ⟨s0, s1⟩, ⟨l0, l1⟩, b0, b1⟩ := hb
  go_enter Tryz.func42, Tryz.ntmps42
  go_upto_region 0 with fail
  go_cut [2, 3] (fun s2 s3 wx => ∃ c b2 b3, s2 = .pointer (some ⟨b2, 0, none⟩) ∧ s3 = .pointer (some ⟨b3, 0, none⟩) ∧ LS w g c b2 b3 t s l b [.int .i64 t, .int .i64 s, .int .i64 l, .int .i64 b, .int .i64 0, .int .i64 0, .int .i64 0, .int .i64 0, .int .i64 0, .int .i64 0, .int .i64 0, .int .i64 0, .int .i64 0, .int .i64 0, .int .i64 0, .int .i64 0, .int .i64 0, .int .i64 0, .int .i64 0, .int .i64 0, .int .i64 0, .int .i64 0, .int .i64 0, .int .i64 0, .int .i64 0, .int .i64 0, .int .i64 0, .int .i64 0, .int .i64 0] 0 wx)
  case first =>
    have hg1 : ¬ g = w.heap.size + 1 := by omega
    have hg2 : ¬ g = w.heap.size + 1 + 1 := by omega
    have hg3 : ¬ w.heap.size = g := by omega
    have hg4 : ¬ w.heap.size + 1 = g := by omega
    have hg5 : ¬ w.heap.size + 1 + 1 = g := by omega
    have hg6 : g < w.heap.size + 1 := by omega
    have hg7 : g < w.heap.size + 1 + 1 := by omega
    go_region_with (go_at_call 63; refine (counter_any _).mono ?_; rintro e w' ⟨rfl, rfl⟩)
    all_goals
      go_wp2_with fail
      go_meet
      first | exact ⟨_, _, _, rfl, rfl, ls_0 HG.out⟩ | exact ⟨_, _, _, rfl, rfl, ls_1 HG.out⟩ | exact ⟨_, _, _, rfl, rfl, ls_2 HG.out⟩ | exact ⟨_, _, _, rfl, rfl, ls_3 HG.out⟩ | exact ⟨_, _, _, rfl, rfl, ls_4 HG.out⟩ | exact ⟨_, _, _, rfl, rfl, ls_5 HG.out⟩
  case rest =>
    obtain ⟨c, b2, b3, rfl, rfl, L⟩ := hcut
    clear c0 c1 c2 c3 HG hgl hgn
    go_wp2_with fail
    refine (lay_any 2 (0) b3 c _ (by omega) (by omega) (by omega) (by omega) (L.fn.cell 0) (L.num.cell 0) (L.num.frozen 0)).mono ?_
    rintro e w1 ⟨rfl, hw⟩
    have L : LS w g c b2 b3 t s l b [.int .i64 t, .int .i64 s, .int .i64 l, .int .i64 b, .int .i64 0, .int .i64 0, .int .i64 0, .int .i64 0, .int .i64 0, .int .i64 0, .int .i64 0, .int .i64 0, .int .i64 0, .int .i64 0, .int .i64 0, .int .i64 0, .int .i64 0, .int .i64 0, .int .i64 0, .int .i64 0, .int .i64 0, .int .i64 0, .int .i64 0, .int .i64 0, .int .i64 0, .int .i64 0, .int .i64 0, .int .i64 0, .int .i64 0] (2) w1 := by rw [hw]; exact L.next _
    clear hw
    go_wp2_with fail
    refine (lay_any 1 (2) b3 c _ (by omega) (by omega) (by omega) (by omega) (L.fn.cell 0) (L.num.cell 0) (L.num.frozen 0)).mono ?_
    rintro e w2 ⟨rfl, hw⟩
    have L : LS w g c b2 b3 t s l b [.int .i64 t, .int .i64 s, .int .i64 l, .int .i64 b, .int .i64 0, .int .i64 0, .int .i64 0, .int .i64 0, .int .i64 0, .int .i64 0, .int .i64 0, .int .i64 0, .int .i64 0, .int .i64 0, .int .i64 0, .int .i64 0, .int .i64 0, .int .i64 0, .int .i64 0, .int .i64 0, .int .i64 0, .int .i64 0, .int .i64 0, .int .i64 0, .int .i64 0, .int .i64 0, .int .i64 0, .int .i64 0, .int .i64 0] (3) w2 := by rw [hw]; exact L.next _
    clear hw
    have q : w2.cell? ⟨g, 6, none⟩ = some (.int .i64 0) := L.lay.cell 6
    have qf : w2.frozen? ⟨g, 6, none⟩ = false := L.lay.frozen 6
    go_wp2_with fail
    have L := L.put 6 (.int .i64 (16))
    clear q qf
    refine (lay_any 1 (3) b3 c _ (by omega) (by omega) (by omega) (by omega) (L.fn.cell 0) (L.num.cell 0) (L.num.frozen 0)).mono ?_
    rintro e w3 ⟨rfl, hw⟩
    have L : LS w g c b2 b3 t s l b [.int .i64 t, .int .i64 s, .int .i64 l, .int .i64 b, .int .i64 0, .int .i64 0, .int .i64 16, .int .i64 0, .int .i64 0, .int .i64 0, .int .i64 0, .int .i64 0, .int .i64 0, .int .i64 0, .int .i64 0, .int .i64 0, .int .i64 0, .int .i64 0, .int .i64 0, .int .i64 0, .int .i64 0, .int .i64 0, .int .i64 0, .int .i64 0, .int .i64 0, .int .i64 0, .int .i64 0, .int .i64 0, .int .i64 0] (4) w3 := by rw [hw]; exact L.next _
    clear hw
    have q : w3.cell? ⟨g, 7, none⟩ = some (.int .i64 0) := L.lay.cell 7
    have qf : w3.frozen? ⟨g, 7, none⟩ = false := L.lay.frozen 7
    go_wp2_with fail
    have L := L.put 7 (.int .i64 (24))
    clear q qf
    refine (lay_any 1 (4) b3 c _ (by omega) (by omega) (by omega) (by omega) (L.fn.cell 0) (L.num.cell 0) (L.num.frozen 0)).mono ?_
    rintro e w4 ⟨rfl, hw⟩
    have L : LS w g c b2 b3 t s l b [.int .i64 t, .int .i64 s, .int .i64 l, .int .i64 b, .int .i64 0, .int .i64 0, .int .i64 16, .int .i64 24, .int .i64 0, .int .i64 0, .int .i64 0, .int .i64 0, .int .i64 0, .int .i64 0, .int .i64 0, .int .i64 0, .int .i64 0, .int .i64 0, .int .i64 0, .int .i64 0, .int .i64 0, .int .i64 0, .int .i64 0, .int .i64 0, .int .i64 0, .int .i64 0, .int .i64 0, .int .i64 0, .int .i64 0] (5) w4 := by rw [hw]; exact L.next _
    clear hw
    have q : w4.cell? ⟨g, 8, none⟩ = some (.int .i64 0) := L.lay.cell 8
    have qf : w4.frozen? ⟨g, 8, none⟩ = false := L.lay.frozen 8
    go_upto_region 6 with fail
    have L := L.put 8 (.int .i64 (32))
    clear q qf
    generalize w4.setCell ⟨g, 8, none⟩ (.int .i64 (32)) = w5 at *
    have L : LS w g c b2 b3 t s l b [.int .i64 t, .int .i64 s, .int .i64 l, .int .i64 b, .int .i64 0, .int .i64 0, .int .i64 16, .int .i64 24, .int .i64 32, .int .i64 0, .int .i64 0, .int .i64 0, .int .i64 0, .int .i64 0, .int .i64 0, .int .i64 0, .int .i64 0, .int .i64 0, .int .i64 0, .int .i64 0, .int .i64 0, .int .i64 0, .int .i64 0, .int .i64 0, .int .i64 0, .int .i64 0, .int .i64 0, .int .i64 0, .int .i64 0] (5) w5 := L
    go_cut [37] (fun s37 wx => LS w g c b2 b3 t s l b [.int .i64 t, .int .i64 s, .int .i64 l, .int .i64 b, .int .i64 0, .int .i64 0, .int .i64 16, .int .i64 24, .int .i64 32, .int .i64 40, .int .i64 1, .int .i64 b, .int .i64 0, .int .i64 0, .int .i64 0, .int .i64 0, .int .i64 0, .int .i64 0, .int .i64 0, .int .i64 0, .int .i64 0, .int .i64 0, .int .i64 0, .int .i64 0, .int .i64 0, .int .i64 0, .int .i64 0, .int .i64 0, .int .i64 0] (5 + nb) wx)
    case first =>
      obtain ⟨f0, f1, f2, f3, f4, f5, f6, f7⟩ := L.facts
      obtain ⟨a0, a1, a2, a3, a4, a5, a6, a7, a8, a9⟩ := L.apart
      have HL := Lib.hid L
      have HD := Lib.hid L.drew
      clear L f6
      have q0 : w5.cell? ⟨g, 9, none⟩ = some (.int .i64 0) := HL.out.lay.cell 9
      have q1 : w5.cell? ⟨g, 10, none⟩ = some (.int .i64 0) := HL.out.lay.cell 10
      have q2 : w5.cell? ⟨g, 11, none⟩ = some (.int .i64 0) := HL.out.lay.cell 11
      go_region_with (first
        | (go_at_call 65; refine (HLb.out _).mono ?_; rintro e w' ⟨rfl, rfl⟩)
        | (go_at_call 64; refine (lay_any _ (5) b3 c _ (by omega) (by omega) (by omega) (by omega) (HD.out.fn.cell 0) (HD.out.num.cell 0) (HD.out.num.frozen 0)).mono ?_; rintro e w' ⟨rfl, rfl⟩))
      all_goals
        go_wp2_with fail
        go_meet
        first | exact ((((HL.out.next _).put 9 _).put 10 _).put 11 _).drew | exact (((HL.out.next _).put 9 _).put 10 _).put 11 _
    case rest =>
      have L : LS w g c b2 b3 t s l b [.int .i64 t, .int .i64 s, .int .i64 l, .int .i64 b, .int .i64 0, .int .i64 0, .int .i64 16, .int .i64 24, .int .i64 32, .int .i64 40, .int .i64 1, .int .i64 b, .int .i64 0, .int .i64 0, .int .i64 0, .int .i64 0, .int .i64 0, .int .i64 0, .int .i64 0, .int .i64 0, .int .i64 0, .int .i64 0, .int .i64 0, .int .i64 0, .int .i64 0, .int .i64 0, .int .i64 0, .int .i64 0, .int .i64 0] (5 + nb) wc := hcut
      clear hcut
      go_upto_region 7 with fail
      generalize wc = w6 at *
      go_cut [47] (fun s47 wx => LS w g c b2 b3 t s l b [.int .i64 t, .int .i64 s, .int .i64 l, .int .i64 b, .int .i64 0, .int .i64 0, .int .i64 16, .int .i64 24, .int .i64 32, .int .i64 40, .int .i64 1, .int .i64 b, .int .i64 ((5 + nb) * 8), .int .i64 8, .int .i64 t, .int .i64 0, .int .i64 0, .int .i64 0, .int .i64 0, .int .i64 0, .int .i64 0, .int .i64 0, .int .i64 0, .int .i64 0, .int .i64 0, .int .i64 0, .int .i64 0, .int .i64 0, .int .i64 0] (5 + nb + t) wx)
      case first =>
        obtain ⟨f0, f1, f2, f3, f4, f5, f6, f7⟩ := L.facts
        obtain ⟨a0, a1, a2, a3, a4, a5, a6, a7, a8, a9⟩ := L.apart
        have HL := Lib.hid L
        have HD := Lib.hid L.drew
        clear L f6
        have q0 : w6.cell? ⟨g, 12, none⟩ = some (.int .i64 0) := HL.out.lay.cell 12
        have q1 : w6.cell? ⟨g, 13, none⟩ = some (.int .i64 0) := HL.out.lay.cell 13
        have q2 : w6.cell? ⟨g, 14, none⟩ = some (.int .i64 0) := HL.out.lay.cell 14
        go_region_with (first
          | (fail)
          | (go_at_call 64; refine (lay_any _ (5 + nb) b3 c _ (by omega) (by omega) (by omega) (by omega) (HD.out.fn.cell 0) (HD.out.num.cell 0) (HD.out.num.frozen 0)).mono ?_; rintro e w' ⟨rfl, rfl⟩))
        all_goals
          go_wp2_with fail
          go_meet
          first | exact ((((HL.out.next _).put 12 _).put 13 _).put 14 _).drew | exact (((HL.out.next _).put 12 _).put 13 _).put 14 _
      case rest =>
        have L : LS w g c b2 b3 t s l b [.int .i64 t, .int .i64 s, .int .i64 l, .int .i64 b, .int .i64 0, .int .i64 0, .int .i64 16, .int .i64 24, .int .i64 32, .int .i64 40, .int .i64 1, .int .i64 b, .int .i64 ((5 + nb) * 8), .int .i64 8, .int .i64 t, .int .i64 0, .int .i64 0, .int .i64 0, .int .i64 0, .int .i64 0, .int .i64 0, .int .i64 0, .int .i64 0, .int .i64 0, .int .i64 0, .int .i64 0, .int .i64 0, .int .i64 0, .int .i64 0] (5 + nb + t) wc := hcut
        clear hcut
        obtain ⟨f0, f1, f2, f3, f4, f5, f6, f7⟩ := L.facts
        go_wp2_with fail
        refine (HLl.out _).mono ?_
        rintro e w' ⟨rfl, rfl⟩
        clear f0 f1 f2 f3 f4 f5 f6 f7
        go_upto_region 9 with fail
        generalize wc = w7 at *
        go_cut [64] (fun s64 wx => LS w g c b2 b3 t s l b [.int .i64 t, .int .i64 s, .int .i64 l, .int .i64 b, .int .i64 0, .int .i64 0, .int .i64 16, .int .i64 24, .int .i64 32, .int .i64 40, .int .i64 1, .int .i64 b, .int .i64 ((5 + nb) * 8), .int .i64 8, .int .i64 t, .int .i64 ((5 + nb + t) * 8), .int .i64 (nl * 8), .int .i64 t, .int .i64 0, .int .i64 0, .int .i64 0, .int .i64 0, .int .i64 0, .int .i64 0, .int .i64 0, .int .i64 0, .int .i64 0, .int .i64 0, .int .i64 0] (5 + nb + t + t * nl) wx)
        case first =>
          obtain ⟨f0, f1, f2, f3, f4, f5, f6, f7⟩ := L.facts
          obtain ⟨a0, a1, a2, a3, a4, a5, a6, a7, a8, a9⟩ := L.apart
          have HL := Lib.hid L
          have HD := Lib.hid L.drew
          clear L f6
          have q0 : w7.cell? ⟨g, 15, none⟩ = some (.int .i64 0) := HL.out.lay.cell 15
          have q1 : w7.cell? ⟨g, 16, none⟩ = some (.int .i64 0) := HL.out.lay.cell 16
          have q2 : w7.cell? ⟨g, 17, none⟩ = some (.int .i64 0) := HL.out.lay.cell 17
          have hwr0 : IntKind.i64.wrap (t * nl) = t * nl := IntWalk.i64_in _ (by omega)
          have hwr1 : IntKind.i64.wrap (nl * 8) = nl * 8 := IntWalk.i64_in _ (by omega)
          go_region_with (first
            | (fail)
            | (go_at_call 64; refine (lay_any _ (5 + nb + t) b3 c _ (by omega) (by omega) (by omega) (by omega) (HD.out.fn.cell 0) (HD.out.num.cell 0) (HD.out.num.frozen 0)).mono ?_; rintro e w' ⟨rfl, rfl⟩))
          all_goals
            go_wp2_with fail
            go_meet
            first | exact ((((HL.out.next _).put 15 _).put 16 _).put 17 _).drew | exact (((HL.out.next _).put 15 _).put 16 _).put 17 _
        case rest =>
          have L : LS w g c b2 b3 t s l b [.int .i64 t, .int .i64 s, .int .i64 l, .int .i64 b, .int .i64 0, .int .i64 0, .int .i64 16, .int .i64 24, .int .i64 32, .int .i64 40, .int .i64 1, .int .i64 b, .int .i64 ((5 + nb) * 8), .int .i64 8, .int .i64 t, .int .i64 ((5 + nb + t) * 8), .int .i64 (nl * 8), .int .i64 t, .int .i64 0, .int .i64 0, .int .i64 0, .int .i64 0, .int .i64 0, .int .i64 0, .int .i64 0, .int .i64 0, .int .i64 0, .int .i64 0, .int .i64 0] (5 + nb + t + t * nl) wc := hcut
          clear hcut
          go_upto_region 10 with fail
          generalize wc = w8 at *
          go_cut [74] (fun s74 wx => LS w g c b2 b3 t s l b [.int .i64 t, .int .i64 s, .int .i64 l, .int .i64 b, .int .i64 0, .int .i64 0, .int .i64 16, .int .i64 24, .int .i64 32, .int .i64 40, .int .i64 1, .int .i64 b, .int .i64 ((5 + nb) * 8), .int .i64 8, .int .i64 t, .int .i64 ((5 + nb + t) * 8), .int .i64 (nl * 8), .int .i64 t, .int .i64 ((5 + nb + t + t * nl) * 8), .int .i64 8, .int .i64 s, .int .i64 0, .int .i64 0, .int .i64 0, .int .i64 0, .int .i64 0, .int .i64 0, .int .i64 0, .int .i64 0] (5 + nb + t + t * nl + s) wx)
          case first =>
            obtain ⟨f0, f1, f2, f3, f4, f5, f6, f7⟩ := L.facts
            obtain ⟨a0, a1, a2, a3, a4, a5, a6, a7, a8, a9⟩ := L.apart
            have HL := Lib.hid L
            have HD := Lib.hid L.drew
            clear L f6
            have q0 : w8.cell? ⟨g, 18, none⟩ = some (.int .i64 0) := HL.out.lay.cell 18
            have q1 : w8.cell? ⟨g, 19, none⟩ = some (.int .i64 0) := HL.out.lay.cell 19
            have q2 : w8.cell? ⟨g, 20, none⟩ = some (.int .i64 0) := HL.out.lay.cell 20
            go_region_with (first
              | (fail)
              | (go_at_call 64; refine (lay_any _ (5 + nb + t + t * nl) b3 c _ (by omega) (by omega) (by omega) (by omega) (HD.out.fn.cell 0) (HD.out.num.cell 0) (HD.out.num.frozen 0)).mono ?_; rintro e w' ⟨rfl, rfl⟩))
            all_goals
              go_wp2_with fail
              go_meet
              first | exact ((((HL.out.next _).put 18 _).put 19 _).put 20 _).drew | exact (((HL.out.next _).put 18 _).put 19 _).put 20 _
          case rest =>
            have L : LS w g c b2 b3 t s l b [.int .i64 t, .int .i64 s, .int .i64 l, .int .i64 b, .int .i64 0, .int .i64 0, .int .i64 16, .int .i64 24, .int .i64 32, .int .i64 40, .int .i64 1, .int .i64 b, .int .i64 ((5 + nb) * 8), .int .i64 8, .int .i64 t, .int .i64 ((5 + nb + t) * 8), .int .i64 (nl * 8), .int .i64 t, .int .i64 ((5 + nb + t + t * nl) * 8), .int .i64 8, .int .i64 s, .int .i64 0, .int .i64 0, .int .i64 0, .int .i64 0, .int .i64 0, .int .i64 0, .int .i64 0, .int .i64 0] (5 + nb + t + t * nl + s) wc := hcut
            clear hcut
            have f6 : wc.cell? ⟨b3, 0, none⟩ = some (.func (.func 83) #[] #[.pointer (some ⟨c, 0, none⟩)]) := L.fn.cell 0
            go_wp2_with fail
            refine (next_any 0 (5 + nb + t + t * nl + s) c _ (by omega) (by omega) (by omega) (by omega) (L.num.cell 0) (L.num.frozen 0)).mono ?_
            rintro e w9 ⟨rfl, hw⟩
            have L : LS w g c b2 b3 t s l b [.int .i64 t, .int .i64 s, .int .i64 l, .int .i64 b, .int .i64 0, .int .i64 0, .int .i64 16, .int .i64 24, .int .i64 32, .int .i64 40, .int .i64 1, .int .i64 b, .int .i64 ((5 + nb) * 8), .int .i64 8, .int .i64 t, .int .i64 ((5 + nb + t) * 8), .int .i64 (nl * 8), .int .i64 t, .int .i64 ((5 + nb + t + t * nl) * 8), .int .i64 8, .int .i64 s, .int .i64 0, .int .i64 0, .int .i64 0, .int .i64 0, .int .i64 0, .int .i64 0, .int .i64 0, .int .i64 0] (5 + nb + t + t * nl + s + 0) w9 := by rw [hw]; exact L.next _
            clear hw f6
            have q : w9.cell? ⟨g, 4, none⟩ = some (.int .i64 0) := L.lay.cell 4
            have qf : w9.frozen? ⟨g, 4, none⟩ = false := L.lay.frozen 4
            go_wp2_with fail
            go_end0
            have L := L.put 4 (.int .i64 (5 + nb + t + t * nl + s))
            exact ⟨rfl, L.lay, L.fr⟩
end Go.Proofs.YtolengkegjipaaaGreat

