/- All lasting words of a config by their names, as the document's answer lays them. Conditions: those that each theorem names. -/
import Derived.Test.YtfjfeomkmhbpbaaNames
namespace Go.Proofs.Ytfjfeomkmhbpbaa
open Go.ChangeShapes Go.WideShapes Go.ChangeAt Go.RowKit
set_option linter.unusedVariables false
set_option maxRecDepth 100000 in
set_option maxHeartbeats 4000000 in
theorem lasting_any (t s l b : Nat) (w : World) (ht : t ≤ 64) (hs : s ≤ 65536) (hl : l ≤ 64) (hb : b ≤ 64) :
    Calls Try.prog 35 #[.agg #[.int .i64 t, .int .i64 s, .int .i64 l, .int .i64 b]] w fun e w' => ∃ v, e = .returned v ∧ Names w' w.heap.size v (NM.last t s l b) ∧ Ext w w' := by
  go_enter Try.func35, Try.ntmps35
  go_wp2_with fail
  obtain ⟨w1, HW1⟩ : ∃ w1, Hid (w.alloc (.cells #[.int .i64 t, .int .i64 s, .int .i64 l, .int .i64 b] 29) = w1) := ⟨_, Lib.hid rfl⟩
  rw [HW1.out]
  have HC := Lib.hid (show C4 w1 w.heap.size t s l b by rw [← HW1.out]; exact C4.new w _ _ _ _ _)
  have hlt : w.heap.size < w1.heap.size := by rw [← HW1.out]; simp
  have hx1 : Ext w w1 := by rw [← HW1.out]; exact (Ext.refl w).alloc _
  clear HW1
  go_loopw [3, 4] (fun v i wr => ∃ k : Nat, k ≤ 16 ∧ i = .int .i64 k ∧ Names wr w1.heap.size v (NM.supers k) ∧ Ext w1 wr) (fun _ i _ => 16 - (intOf i).toNat)
  case atStart => exact ⟨0, Nat.zero_le _, rfl, Names.nil _ _, Ext.refl _⟩
  case round =>
    obtain ⟨k, hk, rfl, hrow, hext⟩ := hrel
    by_cases hk2 : k < 16
    · have HS := Lib.hid (NM.supers_succ k)
      go_wp2_with ((at_builtin; refine Hid.out ?_))
      refine Lib.hid ?_
      refine wpList_pushName rfl _ _ rfl w1 _ _ (NM.supers k) 1 ((k : Int) / 8) ((k : Int) % 8) (by rfl) hrow hext (by rfl) (by rw [NM.supers_len]; omega) ?_
      clear hrow hext
      intro vN wN hrow hext
      generalize vN = vM at *
      generalize wN = wM at *
      go_wp2_with fail
      go_roundw
      case rel => exact ⟨k + 1, by omega, by go_num, by rw [HS.out]; exact hrow, hext⟩
      case measure => simp [intOf]; omega
    · obtain rfl : k = 16 := by omega
      clear hk hk2
      generalize wr = wM at *
      go_wp2_with ((at_builtin; refine Hid.out ?_))
      refine Lib.hid ?_
      refine wpList_pushName rfl _ _ rfl w1 _ _ (NM.supers 16) 2 0 0 (by rfl) hrow hext (by rfl) (by decide) ?_
      clear hrow hext
      intro vN wN hrow hext
      generalize vN = vM at *
      generalize wN = wM at *
      go_wp2_with fail
      refine (fill_any w1 _ _ _ hrow hext (by decide)).mono ?_
      clear hrow hext
      rintro e wN ⟨vN, rfl, hrow, hext⟩
      generalize vN = vM at *
      generalize wN = wM at *
      replace hrow : Names wM w1.heap.size vM (NM.supers 16 ++ NM.one 2) := hrow
      go_wp2_with ((at_builtin; refine Hid.out ?_))
      refine Lib.hid ?_
      refine wpList_pushName rfl _ _ rfl w1 _ _ (NM.supers 16 ++ NM.one 2) 3 0 0 (by rfl) hrow hext (by rfl) (by decide) ?_
      clear hrow hext
      intro vN wN hrow hext
      generalize vN = vM at *
      generalize wN = wM at *
      go_wp2_with fail
      refine (fill_any w1 _ _ _ hrow hext (by decide)).mono ?_
      clear hrow hext
      rintro e wN ⟨vN, rfl, hrow, hext⟩
      generalize vN = vM at *
      generalize wN = wM at *
      replace hrow : Names wM w1.heap.size vM (NM.supers 16 ++ NM.one 2 ++ NM.one 3) := hrow
      go_wp2_with ((at_builtin; refine Hid.out ?_))
      refine Lib.hid ?_
      refine wpList_pushName rfl _ _ rfl w1 _ _ (NM.supers 16 ++ NM.one 2 ++ NM.one 3) 4 0 0 (by rfl) hrow hext (by rfl) (by decide) ?_
      clear hrow hext
      intro vN wN hrow hext
      generalize vN = vM at *
      generalize wN = wM at *
      go_wp2_with fail
      refine (fill_any w1 _ _ _ hrow hext (by decide)).mono ?_
      clear hrow hext
      rintro e wN ⟨vN, rfl, hrow, hext⟩
      generalize vN = vM at *
      generalize wN = wM at *
      replace hrow : Names wM w1.heap.size vM (NM.supers 16 ++ NM.one 2 ++ NM.one 3 ++ NM.one 4) := hrow
      obtain ⟨U, HU, hUl⟩ : ∃ U, Hid (NM.upto4 = U) ∧ U.length = 40 := ⟨_, Lib.hid rfl, rfl⟩
      have HUl := Lib.hid hUl
      clear hUl
      replace hrow : Names wM w1.heap.size vM U := by rw [← HU.out]; exact hrow
      go_wp2_with fail
      go_loopw [3, 5] (fun v i wr => ∃ k : Nat, k ≤ b ∧ i = .int .i64 k ∧ Names wr w1.heap.size v (U ++ NM.bucks k) ∧ Ext w1 wr) (fun _ i _ => b - (intOf i).toNat)
      case atStart => exact ⟨0, Nat.zero_le _, rfl, by simpa [NM.bucks] using hrow, hext⟩
      case round =>
        clear hrow hext
        obtain ⟨k, hk, rfl, hrow, hext⟩ := hrel
        obtain ⟨c0, c1, c2, c3⟩ := HC.out.ext hext hlt
        by_cases hk2 : k < b
        · have HS := Lib.hid (NM.bucks_succ k)
          go_wp2_with ((at_builtin; refine Hid.out ?_))
          refine Lib.hid ?_
          refine wpList_pushName rfl _ _ rfl w1 _ _ (U ++ NM.bucks k) 5 (k : Int) 0 (by rfl) hrow hext (by rfl) (by rw [List.length_append, NM.bucks_len, HUl.out]; omega) ?_
          clear hrow hext
          intro vN wN hrow hext
          generalize vN = vM at *
          generalize wN = wM at *
          clear c0 c1 c2 c3
          go_wp2_with fail
          go_roundw
          case rel => exact ⟨k + 1, by omega, by go_num, by rw [HS.out, ← List.append_assoc]; exact hrow, hext⟩
          case measure => simp [intOf]; omega
        · obtain rfl : k = b := by omega
          clear hk hk2
          generalize wr = wM at *
          go_wp2_with fail
          refine (fill_any w1 _ _ _ hrow hext (by rw [List.length_append, NM.bucks_len, HUl.out]; omega)).mono ?_
          clear hrow hext
          rintro e wN ⟨vN, rfl, hrow, hext⟩
          generalize vN = vM at *
          generalize wN = wM at *
          clear c0 c1 c2 c3
          obtain ⟨V, HV⟩ : ∃ V, Hid (U ++ (NM.bucks k ++ NM.pad k) = V) := ⟨_, Lib.hid rfl⟩
          have hrow2 : Names wM w1.heap.size vM V := by
            rw [← HV.out, ← List.append_assoc]
            have e := hrow
            rw [List.length_append, NM.bucks_len, HUl.out, NM.pad_mod (by decide)] at e
            exact e
          have HVl := Lib.hid (show V.length = 40 + 8 * ((k + 7) / 8) by rw [← HV.out, List.length_append, NM.bpad_len, HUl.out])
          replace hrow := hrow2
          clear hrow2
          go_wp2_with fail
          go_loopw [3, 6] (fun v i wr => ∃ q : Nat, q ≤ t ∧ i = .int .i64 q ∧ Names wr w1.heap.size v (V ++ NM.threads q) ∧ Ext w1 wr) (fun _ i _ => t - (intOf i).toNat)
          case atStart => exact ⟨0, Nat.zero_le _, rfl, by simpa [NM.threads] using hrow, hext⟩
          case round =>
            clear hrow hext
            obtain ⟨q, hq, rfl, hrow, hext⟩ := hrel
            obtain ⟨c0, c1, c2, c3⟩ := HC.out.ext hext hlt
            by_cases hq2 : q < t
            · have HS := Lib.hid (NM.threads_succ q)
              go_wp2_with ((at_builtin; refine Hid.out ?_))
              refine Lib.hid ?_
              refine wpList_pushName rfl _ _ rfl w1 _ _ (V ++ NM.threads q) 6 (q : Int) 0 (by rfl) hrow hext (by rfl) (by rw [List.length_append, NM.threads_len, HVl.out]; omega) ?_
              clear hrow hext
              intro vN wN hrow hext
              generalize vN = vM at *
              generalize wN = wM at *
              clear c0 c1 c2 c3
              go_wp2_with ((at_builtin; refine Hid.out ?_))
              refine Lib.hid ?_
              refine wpList_pushName rfl _ _ rfl w1 _ _ (V ++ NM.threads q ++ [(6, (q : Int), 0)]) 7 (q : Int) 0 (by rfl) hrow hext (by rfl) (by rw [List.length_append, List.length_append, NM.threads_len, HVl.out]; simp; omega) ?_
              clear hrow hext
              intro vN wN hrow hext
              generalize vN = vM at *
              generalize wN = wM at *
              go_wp2_with fail
              refine (fill_any w1 _ _ _ hrow hext (by rw [List.length_append, List.length_append, List.length_append, NM.threads_len, HVl.out]; simp; omega)).mono ?_
              clear hrow hext
              rintro e wN ⟨vN, rfl, hrow, hext⟩
              generalize vN = vM at *
              generalize wN = wM at *
              have hrow2 : Names wM w1.heap.size vM (V ++ NM.threads (q + 1)) := by
                have e := hrow
                rw [show (V ++ NM.threads q ++ [((6, (q : Int), 0) : NM.Nm)] ++ [((7, (q : Int), 0) : NM.Nm)]).length = (V.length + (NM.threads q).length) + 2 by simp <;> omega, NM.pad_mod (by rw [NM.threads_len, HVl.out]; omega)] at e
                rw [HS.out]
                unfold NM.thread
                simpa using e
              clear hrow
              go_wp2_with fail
              go_roundw
              case rel => exact ⟨q + 1, by omega, by go_num, hrow2, hext⟩
              case measure => simp [intOf]; omega
            · obtain rfl : q = t := by omega
              clear hq hq2
              generalize wr = wM at *
              obtain ⟨X, HX⟩ : ∃ X, Hid (V ++ NM.threads q = X) := ⟨_, Lib.hid rfl⟩
              rw [HX.out] at hrow
              have HXl := Lib.hid (show X.length = 8 * (5 + (k + 7) / 8 + q) by rw [← HX.out, List.length_append, NM.threads_len, HVl.out]; omega)
              go_wp2_with fail
              clear c0 c1 c2 c3
              go_loopw [3, 7] (fun v i wr => ∃ p : Nat, p ≤ q ∧ i = .int .i64 p ∧ Names wr w1.heap.size v (X ++ NM.logs l p) ∧ Ext w1 wr) (fun _ i _ => q - (intOf i).toNat)
              case atStart => exact ⟨0, Nat.zero_le _, rfl, by simpa [NM.logs] using hrow, hext⟩
              case round =>
                clear hrow hext
                obtain ⟨p, hp, rfl, hrow, hext⟩ := hrel
                obtain ⟨c0, c1, c2, c3⟩ := HC.out.ext hext hlt
                have hm : 8 * ((l + 7) / 8) * p ≤ 8 * 8 * 64 := Nat.mul_le_mul (by omega) (by omega)
                have HLl := Lib.hid (show (X ++ NM.logs l p).length = 8 * (5 + (k + 7) / 8 + q) + 8 * ((l + 7) / 8) * p by rw [List.length_append, NM.logs_len, HXl.out])
                by_cases hp2 : p < q
                · have HS := Lib.hid (NM.logs_succ l p)
                  generalize wr = wI at *
                  go_wp2_with fail
                  go_loopw [3, 8] (fun v i wr => ∃ j : Nat, j ≤ l ∧ i = .int .i64 j ∧ Names wr w1.heap.size v (X ++ NM.logs l p ++ NM.ents p j) ∧ Ext w1 wr) (fun _ i _ => l - (intOf i).toNat)
                  case atStart => exact ⟨0, Nat.zero_le _, rfl, by simpa [NM.ents] using hrow, hext⟩
                  case round =>
                    clear hrow hext c0 c1 c2 c3
                    obtain ⟨j, hj, rfl, hrow, hext⟩ := hrel
                    obtain ⟨c0, c1, c2, c3⟩ := HC.out.ext hext hlt
                    by_cases hj2 : j < l
                    · have HE := Lib.hid (NM.ents_succ p j)
                      go_wp2_with ((at_builtin; refine Hid.out ?_))
                      refine Lib.hid ?_
                      refine wpList_pushName rfl _ _ rfl w1 _ _ (X ++ NM.logs l p ++ NM.ents p j) 8 (p : Int) (j : Int) (by rfl) hrow hext (by rfl) (by rw [List.length_append, NM.ents_len, HLl.out]; omega) ?_
                      clear hrow hext
                      intro vN wN hrow hext
                      generalize vN = vM at *
                      generalize wN = wM at *
                      clear c0 c1 c2 c3
                      go_wp2_with fail
                      go_roundw
                      case rel => exact ⟨j + 1, by omega, by go_num, by rw [HE.out, ← List.append_assoc]; exact hrow, hext⟩
                      case measure => simp [intOf]; omega
                    · obtain rfl : j = l := by omega
                      clear hj hj2
                      generalize wr = wM at *
                      go_wp2_with fail
                      refine (fill_any w1 _ _ _ hrow hext (by rw [List.length_append, NM.ents_len, HLl.out]; omega)).mono ?_
                      clear hrow hext
                      rintro e wN ⟨vN, rfl, hrow, hext⟩
                      generalize vN = vM at *
                      generalize wN = wM at *
                      have hrow2 : Names wM w1.heap.size vM (X ++ NM.logs j (p + 1)) := by
                        have e := hrow
                        rw [show (X ++ NM.logs j p ++ NM.ents p j).length = (X ++ NM.logs j p).length + j by rw [List.length_append, NM.ents_len], NM.pad_mod (by rw [HLl.out, Nat.mul_assoc]; omega)] at e
                        rw [HS.out]
                        unfold NM.log
                        simpa using e
                      clear hrow c0 c1 c2 c3
                      go_wp2_with fail
                      go_roundw
                      case rel => exact ⟨p + 1, by omega, by go_num, hrow2, hext⟩
                      case measure => simp [intOf]; omega
                · obtain rfl : p = q := by omega
                  clear hp hp2
                  generalize wr = wM at *
                  obtain ⟨Y, HY⟩ : ∃ Y, Hid (X ++ NM.logs l p = Y) := ⟨_, Lib.hid rfl⟩
                  rw [HY.out] at hrow HLl
                  go_wp2_with fail
                  clear c0 c1 c2 c3
                  go_loopw [3, 9] (fun v i wr => ∃ a : Nat, a ≤ s ∧ i = .int .i64 a ∧ Names wr w1.heap.size v (Y ++ NM.slots a) ∧ Ext w1 wr) (fun _ i _ => s - (intOf i).toNat)
                  case atStart => exact ⟨0, Nat.zero_le _, rfl, by simpa [NM.slots] using hrow, hext⟩
                  case round =>
                    clear hrow hext
                    obtain ⟨a, ha, rfl, hrow, hext⟩ := hrel
                    obtain ⟨c0, c1, c2, c3⟩ := HC.out.ext hext hlt
                    have HSl := Lib.hid (show (Y ++ NM.slots a).length = 8 * (5 + (k + 7) / 8 + p) + 8 * ((l + 7) / 8) * p + 8 * a by rw [List.length_append, NM.slots_len, HLl.out])
                    by_cases ha2 : a < s
                    · have HS := Lib.hid (NM.slots_succ a)
                      generalize wr = wI at *
                      go_wp2_with fail
                      go_loopw [3, 10] (fun v i wr => ∃ j : Nat, j ≤ 5 ∧ i = .int .i64 ((9 + j : Nat) : Int) ∧ Names wr w1.heap.size v (Y ++ NM.slots a ++ NM.kinds a j) ∧ Ext w1 wr) (fun _ i _ => 14 - (intOf i).toNat)
                      case atStart => exact ⟨0, Nat.zero_le _, rfl, by simpa [NM.kinds] using hrow, hext⟩
                      case round =>
                        clear hrow hext c0 c1 c2 c3
                        obtain ⟨j, hj, rfl, hrow, hext⟩ := hrel
                        by_cases hj2 : j < 5
                        · have HE := Lib.hid (NM.kinds_succ a j)
                          have hj3 : 9 + j ≤ 13 := by omega
                          have hj4 : ((9 + j : Nat) : Int) ≤ 13 := by omega
                          have hj5 : 9 + (j : Int) ≤ 13 := by omega
                          go_wp2_with ((at_builtin; refine Hid.out ?_))
                          refine Lib.hid ?_
                          refine wpList_pushName rfl _ _ rfl w1 _ _ (Y ++ NM.slots a ++ NM.kinds a j) ((9 + j : Nat) : Int) (a : Int) 0 (by rfl) hrow hext (by rfl) (by rw [List.length_append, NM.kinds_len, HSl.out]; omega) ?_
                          clear hrow hext
                          intro vN wN hrow hext
                          generalize vN = vM at *
                          generalize wN = wM at *
                          go_wp2_with fail
                          go_roundw
                          case rel => exact ⟨j + 1, by omega, by congr 1, by rw [HE.out, ← List.append_assoc]; exact hrow, hext⟩
                          case measure => simp [intOf]; omega
                        · obtain rfl : j = 5 := by omega
                          clear hj hj2
                          generalize wr = wM at *
                          go_wp2_with fail
                          refine (fill_any w1 _ _ _ hrow hext (by rw [List.length_append, NM.kinds_len, HSl.out]; omega)).mono ?_
                          clear hrow hext
                          rintro e wN ⟨vN, rfl, hrow, hext⟩
                          generalize vN = vM at *
                          generalize wN = wM at *
                          have hrow2 : Names wM w1.heap.size vM (Y ++ NM.slots (a + 1)) := by
                            have e := hrow
                            rw [show (Y ++ NM.slots a ++ NM.kinds a 5).length = (Y ++ NM.slots a).length + 5 by rw [List.length_append, NM.kinds_len], NM.pad_mod (by rw [HSl.out, Nat.mul_assoc]; omega)] at e
                            rw [HS.out]
                            unfold NM.slot
                            simpa using e
                          clear hrow
                          go_wp2_with fail
                          go_roundw
                          case rel => exact ⟨a + 1, by omega, by go_num, hrow2, hext⟩
                          case measure => simp [intOf]; omega
                    · obtain rfl : a = s := by omega
                      have HR := Lib.hid (Names.mono (B' := w.heap.size) hrow (by omega))
                      clear hrow
                      go_wp2_with fail
                      go_ret
                      exact ⟨_, rfl, by unfold NM.last; rw [HU.out, HV.out, HX.out, HY.out]; exact HR.out, hx1.trans hext⟩
end Go.Proofs.Ytfjfeomkmhbpbaa
