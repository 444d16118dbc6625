/- All passing words of a config by their names, as the document's answer lays them. Conditions: those that each theorem names. -/
import Derived.Test.YtfjfeomkmhbpbaaNamesMath
namespace Go.Proofs.Ytfjfeomkmhbpbaa
open Go.ChangeShapes Go.WideShapes Go.ChangeAt Go.RowKit
set_option linter.unusedVariables false
theorem names_two (w : World) : Names (w.alloc (.cells #[.int .i64 14, .int .i64 0, .int .i64 0, .int .i64 15, .int .i64 0, .int .i64 0] 74)) w.heap.size (.slice (some ⟨w.heap.size, 0, none⟩) 2 2) [(14, 0, 0), (15, 0, 0)] :=
  World.ownsRow_lit (e := 74) (size := 3) (base := w.heap.size) w #[.int .i64 14, .int .i64 0, .int .i64 0, .int .i64 15, .int .i64 0, .int .i64 0] 2 (Nat.le_refl _) (by decide) rfl
set_option maxRecDepth 100000 in
set_option maxHeartbeats 2000000 in
theorem passing_any (t s : Nat) (l b : Int) (w : World) (ht : t ≤ 64) (hs : s ≤ 65536) :
    Calls Try.prog 56 #[.agg #[.int .i64 t, .int .i64 s, .int .i64 l, .int .i64 b]] w fun e w' => ∃ v, e = .returned v ∧ Names w' w.heap.size v (NM.pass t s) ∧ Ext w w' := by
  go_enter Try.func56, Try.ntmps56
  go_wp2_with fail
  obtain ⟨w1, HW1⟩ : ∃ w1, Hid (w.alloc (.cells #[.int .i64 t, .int .i64 s, .int .i64 l, .int .i64 b] 29) = w1) := ⟨_, Lib.hid rfl⟩
  have HC := Lib.hid (show C4 w1 w.heap.size t s l b by rw [← HW1.out]; exact C4.new w _ _ _ _ _)
  have hz : w.heap.size + 1 = w1.heap.size := by rw [← HW1.out]; simp
  have hx1 : Ext w w1 := by rw [← HW1.out]; exact (Ext.refl w).alloc _
  have hlt : w.heap.size < w1.heap.size := by omega
  rw [HW1.out]
  try rw [hz]
  clear HW1 hz
  obtain ⟨w2, HW2⟩ : ∃ w2, Hid (w1.alloc (.cells #[.int .i64 14, .int .i64 0, .int .i64 0, .int .i64 15, .int .i64 0, .int .i64 0] 74) = w2) := ⟨_, Lib.hid rfl⟩
  have hrow : Names w2 w1.heap.size (.slice (some ⟨w1.heap.size, 0, none⟩) 2 2) [(14, 0, 0), (15, 0, 0)] := by rw [← HW2.out]; exact names_two w1
  have hext : Ext w1 w2 := by rw [← HW2.out]; exact (Ext.refl w1).alloc _
  rw [HW2.out]
  clear HW2
  go_loopw [3, 4] (fun v i wr => ∃ k : Nat, k ≤ t ∧ i = .int .i64 k ∧ Names wr w1.heap.size v ([(14, 0, 0), (15, 0, 0)] ++ NM.anns k) ∧ Ext w1 wr) (fun _ i _ => t - (intOf i).toNat)
  case atStart => exact ⟨0, Nat.zero_le _, rfl, by simpa [NM.anns] using hrow, hext⟩
  case round =>
    clear hrow hext
    obtain ⟨k, hk, rfl, hrow, hext⟩ := hrel
    obtain ⟨c0, c1, c2, c3⟩ := HC.out.ext hext hlt
    by_cases hk2 : k < t
    · have HS := Lib.hid (NM.anns_succ k)
      go_wp2_with ((at_builtin; refine Hid.out ?_))
      refine Lib.hid ?_
      refine wpList_pushName rfl _ _ rfl w1 _ _ ([(14, 0, 0), (15, 0, 0)] ++ NM.anns k) 16 (k : Int) 0 (by rfl) hrow hext (by rfl) (by rw [List.length_append, NM.anns_len]; simp; omega) ?_
      clear hrow hext c0 c1 c2 c3
      intro vN wN hrow hext
      go_wp2_with fail
      go_roundw
      case rel => exact ⟨k + 1, by omega, by go_num, by rw [HS.out, ← List.append_assoc]; exact hrow, hext⟩
      case measure => simp [intOf]; omega
    · obtain rfl : k = t := by omega
      clear hk hk2
      generalize wr = wM at *
      obtain ⟨V, HV⟩ : ∃ V, Hid ([(14, 0, 0), (15, 0, 0)] ++ NM.anns k = V) := ⟨_, Lib.hid rfl⟩
      rw [HV.out] at hrow
      have HVl := Lib.hid (show V.length = 2 + k by rw [← HV.out, List.length_append, NM.anns_len]; rfl)
      go_wp2_with fail
      clear c0 c1 c2 c3
      go_loopw [3, 5] (fun v i wr => ∃ q : Nat, q ≤ s ∧ i = .int .i64 q ∧ Names wr w1.heap.size v (V ++ NM.afts q) ∧ Ext w1 wr) (fun _ i _ => s - (intOf i).toNat)
      case atStart => exact ⟨0, Nat.zero_le _, rfl, by simpa [NM.afts] using hrow, hext⟩
      case round =>
        clear hrow hext
        obtain ⟨q, hq, rfl, hrow, hext⟩ := hrel
        obtain ⟨c0, c1, c2, c3⟩ := HC.out.ext hext hlt
        by_cases hq2 : q < s
        · have HS := Lib.hid (NM.afts_succ q)
          go_wp2_with ((at_builtin; refine Hid.out ?_))
          refine Lib.hid ?_
          refine wpList_pushName rfl _ _ rfl w1 _ _ (V ++ NM.afts q) 17 (q : Int) 0 (by rfl) hrow hext (by rfl) (by rw [List.length_append, NM.afts_len, HVl.out]; omega) ?_
          clear hrow hext c0 c1 c2 c3
          intro vN wN hrow hext
          go_wp2_with fail
          go_roundw
          case rel => exact ⟨q + 1, by omega, by go_num, by rw [HS.out, ← List.append_assoc]; exact hrow, hext⟩
          case measure => simp [intOf]; omega
        · obtain rfl : q = s := by omega
          have HR := Lib.hid (Names.mono (B' := w.heap.size) hrow (by omega))
          clear hrow
          go_wp2_with fail
          go_ret
          exact ⟨_, rfl, by unfold NM.pass; rw [HV.out]; exact HR.out, hx1.trans hext⟩
end Go.Proofs.Ytfjfeomkmhbpbaa
