/- The passing words of a config are laid. Conditions: those that each theorem names. -/
import Derived.Test.YtolengkegjipaaaGreatKLayA
namespace Go.Proofs.YtolengkegjipaaaGreat
open Go.ChangeShapes Go.WideShapes Go.ChangeAt Go.RowKit
set_option linter.unusedVariables false
set_option maxRecDepth 100000 in
set_option maxHeartbeats 8000000 in
theorem layPassing_any (t s l b nb nl : Int) (g : Nat) (w : World) (hg : Blk w g 97 [.int .i64 t, .int .i64 s, .int .i64 l, .int .i64 b, .int .i64 (5 + nb + t + t * nl + s), .int .i64 0, .int .i64 16, .int .i64 24, .int .i64 32, .int .i64 40, .int .i64 1, .int .i64 b, .int .i64 ((5 + nb) * 8), .int .i64 8, .int .i64 t, .int .i64 ((5 + nb + t) * 8), .int .i64 (nl * 8), .int .i64 t, .int .i64 ((5 + nb + t + t * nl) * 8), .int .i64 8, .int .i64 s, .int .i64 0, .int .i64 0, .int .i64 0, .int .i64 0, .int .i64 0, .int .i64 0, .int .i64 0, .int .i64 0])
    (hb : (0 ≤ t ∧ t ≤ 64) ∧ (0 ≤ s ∧ s ≤ 65536) ∧ (0 ≤ l ∧ l ≤ 64) ∧ (0 ≤ b ∧ b ≤ 64)) :
    Calls Tryz.prog 43 #[.pointer (some ⟨g, 0, none⟩)] w fun e w' => e = .returned (.tuple #[]) ∧ Blk w' g 97 [.int .i64 t, .int .i64 s, .int .i64 l, .int .i64 b, .int .i64 (5 + nb + t + t * nl + s), .int .i64 (2 + t + s), .int .i64 16, .int .i64 24, .int .i64 32, .int .i64 40, .int .i64 1, .int .i64 b, .int .i64 ((5 + nb) * 8), .int .i64 8, .int .i64 t, .int .i64 ((5 + nb + t) * 8), .int .i64 (nl * 8), .int .i64 t, .int .i64 ((5 + nb + t + t * nl) * 8), .int .i64 8, .int .i64 s, .int .i64 (-1), .int .i64 (-2), .int .i64 (-3), .int .i64 (-1), .int .i64 t, .int .i64 (-1 - (2 + t)), .int .i64 (-1), .int .i64 s] ∧ Fr (· = g) w w' := by
  have hmf : ∀ (fn : Fn) (first cap : Array Value) (w : World), (Instr.makeFunc fn first cap).run Tryz.prog w = .ok (.func fn first cap) w := fun _ _ _ _ => rfl
  have c0 : w.cell? ⟨g, 0, none⟩ = some (.int .i64 t) := hg.cell 0
  have c1 : w.cell? ⟨g, 1, none⟩ = some (.int .i64 s) := hg.cell 1
  have c2 : w.cell? ⟨g, 2, none⟩ = some (.int .i64 l) := hg.cell 2
  have c3 : w.cell? ⟨g, 3, none⟩ = some (.int .i64 b) := hg.cell 3
  have hgl := hg.lt
  have hgn : ¬ g = w.heap.size := by omega
  have HG := Lib.hid hg
  clear hg
  obtain ⟨⟨t0, t1⟩, ⟨s0, s1⟩, ⟨l0, l1⟩, b0, b1⟩ := hb
  go_enter Tryz.func43, Tryz.ntmps43
  go_upto_region 0 with fail
  go_cut [2, 3] (fun s2 s3 wx => ∃ c b2 b3, s2 = .pointer (some ⟨b2, 0, none⟩) ∧ s3 = .pointer (some ⟨b3, 0, none⟩) ∧ LS w g c b2 b3 t s l b [.int .i64 t, .int .i64 s, .int .i64 l, .int .i64 b, .int .i64 (5 + nb + t + t * nl + s), .int .i64 0, .int .i64 16, .int .i64 24, .int .i64 32, .int .i64 40, .int .i64 1, .int .i64 b, .int .i64 ((5 + nb) * 8), .int .i64 8, .int .i64 t, .int .i64 ((5 + nb + t) * 8), .int .i64 (nl * 8), .int .i64 t, .int .i64 ((5 + nb + t + t * nl) * 8), .int .i64 8, .int .i64 s, .int .i64 0, .int .i64 0, .int .i64 0, .int .i64 0, .int .i64 0, .int .i64 0, .int .i64 0, .int .i64 0] 0 wx)
  case first =>
    have hg1 : ¬ g = w.heap.size + 1 := by omega
    have hg2 : ¬ g = w.heap.size + 1 + 1 := by omega
    have hg3 : ¬ w.heap.size = g := by omega
    have hg4 : ¬ w.heap.size + 1 = g := by omega
    have hg5 : ¬ w.heap.size + 1 + 1 = g := by omega
    have hg6 : g < w.heap.size + 1 := by omega
    have hg7 : g < w.heap.size + 1 + 1 := by omega
    go_region_with (go_at_call 63; refine (counter_any _).mono ?_; rintro e w' ⟨rfl, rfl⟩)
    all_goals
      go_wp2_with fail
      go_meet
      first | exact ⟨_, _, _, rfl, rfl, ls_0 HG.out⟩ | exact ⟨_, _, _, rfl, rfl, ls_1 HG.out⟩ | exact ⟨_, _, _, rfl, rfl, ls_2 HG.out⟩ | exact ⟨_, _, _, rfl, rfl, ls_3 HG.out⟩ | exact ⟨_, _, _, rfl, rfl, ls_4 HG.out⟩ | exact ⟨_, _, _, rfl, rfl, ls_5 HG.out⟩
  case rest =>
    obtain ⟨c, b2, b3, rfl, rfl, L⟩ := hcut
    clear c0 c1 c2 c3 HG hgl hgn
    go_wp2_with fail
    refine (layp_any 1 (0) b3 c _ (by omega) (by omega) (by omega) (by omega) (L.fn.cell 0) (L.num.cell 0) (L.num.frozen 0)).mono ?_
    rintro e w1 ⟨rfl, hw⟩
    have L : LS w g c b2 b3 t s l b [.int .i64 t, .int .i64 s, .int .i64 l, .int .i64 b, .int .i64 (5 + nb + t + t * nl + s), .int .i64 0, .int .i64 16, .int .i64 24, .int .i64 32, .int .i64 40, .int .i64 1, .int .i64 b, .int .i64 ((5 + nb) * 8), .int .i64 8, .int .i64 t, .int .i64 ((5 + nb + t) * 8), .int .i64 (nl * 8), .int .i64 t, .int .i64 ((5 + nb + t + t * nl) * 8), .int .i64 8, .int .i64 s, .int .i64 0, .int .i64 0, .int .i64 0, .int .i64 0, .int .i64 0, .int .i64 0, .int .i64 0, .int .i64 0] (1) w1 := by rw [hw]; exact L.next _
    clear hw
    have q : w1.cell? ⟨g, 21, none⟩ = some (.int .i64 0) := L.lay.cell 21
    have qf : w1.frozen? ⟨g, 21, none⟩ = false := L.lay.frozen 21
    go_wp2_with fail
    have L := L.put 21 (.int .i64 (-1))
    clear q qf
    refine (layp_any 1 (1) b3 c _ (by omega) (by omega) (by omega) (by omega) (L.fn.cell 0) (L.num.cell 0) (L.num.frozen 0)).mono ?_
    rintro e w2 ⟨rfl, hw⟩
    have L : LS w g c b2 b3 t s l b [.int .i64 t, .int .i64 s, .int .i64 l, .int .i64 b, .int .i64 (5 + nb + t + t * nl + s), .int .i64 0, .int .i64 16, .int .i64 24, .int .i64 32, .int .i64 40, .int .i64 1, .int .i64 b, .int .i64 ((5 + nb) * 8), .int .i64 8, .int .i64 t, .int .i64 ((5 + nb + t) * 8), .int .i64 (nl * 8), .int .i64 t, .int .i64 ((5 + nb + t + t * nl) * 8), .int .i64 8, .int .i64 s, .int .i64 (-1), .int .i64 0, .int .i64 0, .int .i64 0, .int .i64 0, .int .i64 0, .int .i64 0, .int .i64 0] (2) w2 := by rw [hw]; exact L.next _
    clear hw
    have q : w2.cell? ⟨g, 22, none⟩ = some (.int .i64 0) := L.lay.cell 22
    have qf : w2.frozen? ⟨g, 22, none⟩ = false := L.lay.frozen 22
    go_upto_region 4 with fail
    have L := L.put 22 (.int .i64 (-2))
    clear q qf
    generalize w2.setCell ⟨g, 22, none⟩ (.int .i64 (-2)) = w3 at *
    have L : LS w g c b2 b3 t s l b [.int .i64 t, .int .i64 s, .int .i64 l, .int .i64 b, .int .i64 (5 + nb + t + t * nl + s), .int .i64 0, .int .i64 16, .int .i64 24, .int .i64 32, .int .i64 40, .int .i64 1, .int .i64 b, .int .i64 ((5 + nb) * 8), .int .i64 8, .int .i64 t, .int .i64 ((5 + nb + t) * 8), .int .i64 (nl * 8), .int .i64 t, .int .i64 ((5 + nb + t + t * nl) * 8), .int .i64 8, .int .i64 s, .int .i64 (-1), .int .i64 (-2), .int .i64 0, .int .i64 0, .int .i64 0, .int .i64 0, .int .i64 0, .int .i64 0] (2) w3 := L
    go_cut [28] (fun s28 wx => LS w g c b2 b3 t s l b [.int .i64 t, .int .i64 s, .int .i64 l, .int .i64 b, .int .i64 (5 + nb + t + t * nl + s), .int .i64 0, .int .i64 16, .int .i64 24, .int .i64 32, .int .i64 40, .int .i64 1, .int .i64 b, .int .i64 ((5 + nb) * 8), .int .i64 8, .int .i64 t, .int .i64 ((5 + nb + t) * 8), .int .i64 (nl * 8), .int .i64 t, .int .i64 ((5 + nb + t + t * nl) * 8), .int .i64 8, .int .i64 s, .int .i64 (-1), .int .i64 (-2), .int .i64 (-3), .int .i64 (-1), .int .i64 t, .int .i64 0, .int .i64 0, .int .i64 0] (2 + t) wx)
    case first =>
      obtain ⟨f0, f1, f2, f3, f4, f5, f6, f7⟩ := L.facts
      obtain ⟨a0, a1, a2, a3, a4, a5, a6, a7, a8, a9⟩ := L.apart
      have HL := Lib.hid L
      have HD := Lib.hid L.drew
      clear L f6
      have q0 : w3.cell? ⟨g, 23, none⟩ = some (.int .i64 0) := HL.out.lay.cell 23
      have q1 : w3.cell? ⟨g, 24, none⟩ = some (.int .i64 0) := HL.out.lay.cell 24
      have q2 : w3.cell? ⟨g, 25, none⟩ = some (.int .i64 0) := HL.out.lay.cell 25
      go_region_with (first
        | (fail)
        | (go_at_call 66; refine (layp_any _ (2) b3 c _ (by omega) (by omega) (by omega) (by omega) (HD.out.fn.cell 0) (HD.out.num.cell 0) (HD.out.num.frozen 0)).mono ?_; rintro e w' ⟨rfl, rfl⟩))
      all_goals
        go_wp2_with fail
        go_meet
        first | exact ((((HL.out.next _).put 23 _).put 24 _).put 25 _).drew | exact (((HL.out.next _).put 23 _).put 24 _).put 25 _
    case rest =>
      have L : LS w g c b2 b3 t s l b [.int .i64 t, .int .i64 s, .int .i64 l, .int .i64 b, .int .i64 (5 + nb + t + t * nl + s), .int .i64 0, .int .i64 16, .int .i64 24, .int .i64 32, .int .i64 40, .int .i64 1, .int .i64 b, .int .i64 ((5 + nb) * 8), .int .i64 8, .int .i64 t, .int .i64 ((5 + nb + t) * 8), .int .i64 (nl * 8), .int .i64 t, .int .i64 ((5 + nb + t + t * nl) * 8), .int .i64 8, .int .i64 s, .int .i64 (-1), .int .i64 (-2), .int .i64 (-3), .int .i64 (-1), .int .i64 t, .int .i64 0, .int .i64 0, .int .i64 0] (2 + t) wc := hcut
      clear hcut
      go_upto_region 5 with fail
      generalize wc = w4 at *
      go_cut [38] (fun s38 wx => LS w g c b2 b3 t s l b [.int .i64 t, .int .i64 s, .int .i64 l, .int .i64 b, .int .i64 (5 + nb + t + t * nl + s), .int .i64 0, .int .i64 16, .int .i64 24, .int .i64 32, .int .i64 40, .int .i64 1, .int .i64 b, .int .i64 ((5 + nb) * 8), .int .i64 8, .int .i64 t, .int .i64 ((5 + nb + t) * 8), .int .i64 (nl * 8), .int .i64 t, .int .i64 ((5 + nb + t + t * nl) * 8), .int .i64 8, .int .i64 s, .int .i64 (-1), .int .i64 (-2), .int .i64 (-3), .int .i64 (-1), .int .i64 t, .int .i64 (-1 - (2 + t)), .int .i64 (-1), .int .i64 s] (2 + t + s) wx)
      case first =>
        obtain ⟨f0, f1, f2, f3, f4, f5, f6, f7⟩ := L.facts
        obtain ⟨a0, a1, a2, a3, a4, a5, a6, a7, a8, a9⟩ := L.apart
        have HL := Lib.hid L
        have HD := Lib.hid L.drew
        clear L f6
        have q0 : w4.cell? ⟨g, 26, none⟩ = some (.int .i64 0) := HL.out.lay.cell 26
        have q1 : w4.cell? ⟨g, 27, none⟩ = some (.int .i64 0) := HL.out.lay.cell 27
        have q2 : w4.cell? ⟨g, 28, none⟩ = some (.int .i64 0) := HL.out.lay.cell 28
        go_region_with (first
          | (fail)
          | (go_at_call 66; refine (layp_any _ (2 + t) b3 c _ (by omega) (by omega) (by omega) (by omega) (HD.out.fn.cell 0) (HD.out.num.cell 0) (HD.out.num.frozen 0)).mono ?_; rintro e w' ⟨rfl, rfl⟩))
        all_goals
          go_wp2_with fail
          go_meet
          first | exact ((((HL.out.next _).put 26 _).put 27 _).put 28 _).drew | exact (((HL.out.next _).put 26 _).put 27 _).put 28 _
      case rest =>
        have L : LS w g c b2 b3 t s l b [.int .i64 t, .int .i64 s, .int .i64 l, .int .i64 b, .int .i64 (5 + nb + t + t * nl + s), .int .i64 0, .int .i64 16, .int .i64 24, .int .i64 32, .int .i64 40, .int .i64 1, .int .i64 b, .int .i64 ((5 + nb) * 8), .int .i64 8, .int .i64 t, .int .i64 ((5 + nb + t) * 8), .int .i64 (nl * 8), .int .i64 t, .int .i64 ((5 + nb + t + t * nl) * 8), .int .i64 8, .int .i64 s, .int .i64 (-1), .int .i64 (-2), .int .i64 (-3), .int .i64 (-1), .int .i64 t, .int .i64 (-1 - (2 + t)), .int .i64 (-1), .int .i64 s] (2 + t + s) wc := hcut
        clear hcut
        have f6 : wc.cell? ⟨b3, 0, none⟩ = some (.func (.func 83) #[] #[.pointer (some ⟨c, 0, none⟩)]) := L.fn.cell 0
        go_wp2_with fail
        refine (next_any 0 (2 + t + s) c _ (by omega) (by omega) (by omega) (by omega) (L.num.cell 0) (L.num.frozen 0)).mono ?_
        rintro e w5 ⟨rfl, hw⟩
        have L : LS w g c b2 b3 t s l b [.int .i64 t, .int .i64 s, .int .i64 l, .int .i64 b, .int .i64 (5 + nb + t + t * nl + s), .int .i64 0, .int .i64 16, .int .i64 24, .int .i64 32, .int .i64 40, .int .i64 1, .int .i64 b, .int .i64 ((5 + nb) * 8), .int .i64 8, .int .i64 t, .int .i64 ((5 + nb + t) * 8), .int .i64 (nl * 8), .int .i64 t, .int .i64 ((5 + nb + t + t * nl) * 8), .int .i64 8, .int .i64 s, .int .i64 (-1), .int .i64 (-2), .int .i64 (-3), .int .i64 (-1), .int .i64 t, .int .i64 (-1 - (2 + t)), .int .i64 (-1), .int .i64 s] (2 + t + s + 0) w5 := by rw [hw]; exact L.next _
        clear hw f6
        have q : w5.cell? ⟨g, 5, none⟩ = some (.int .i64 0) := L.lay.cell 5
        have qf : w5.frozen? ⟨g, 5, none⟩ = false := L.lay.frozen 5
        go_wp2_with fail
        go_end0
        have L := L.put 5 (.int .i64 (2 + t + s))
        exact ⟨rfl, L.lay, L.fr⟩
end Go.Proofs.YtolengkegjipaaaGreat

