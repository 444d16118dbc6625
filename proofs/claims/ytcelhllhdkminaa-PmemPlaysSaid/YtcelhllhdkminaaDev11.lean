/- Flush, Pending, Open of the device. Conditions: those that each theorem names. -/
import Derived.Test.YtcelhllhdkminaaDev10
import Derived.Test.YtcelhllhdkminaaLineFns6
namespace Go.Proofs.Ytcelhllhdkminaa
open Go.ChangeShapes Go.WideShapes Go.ChangeAt Go.RowKit
set_option linter.unusedVariables false
theorem set_getD_self (l : List (List Int)) (t : Nat) (ht : t < l.length) : l.set t (l.getD t []) = l := by
  rw [List.getD_eq_getElem?_getD, List.getElem?_eq_getElem ht]
  simp
set_option maxRecDepth 100000 in
set_option maxHeartbeats 400000 in
theorem flush_ok (w0 w : World) (D : DevB) (s : DSt) (ext : Ext w0 w) (h : IsDev w0.heap.size w D s) (t p : Nat) (ht : t < s.T) (hp : p < s.n) (hz : (s.fl.getD t []).length ≤ 1000000) (hs : (s.fl.getD t []).Pairwise (· ≤ ·)) :
    Calls Try.prog 79 #[D.ptr, .int .i64 (t : Int), .int .i64 (p : Int)] w (DevBack w0.heap.size w D { s with fl := s.fl.set t (setAdd (s.fl.getD t []) (p : Int)) } (.returned (.int .i64 0))) := by
  unfold DevB.ptr
  have hT1 := h.T1
  have hn1 := h.n1
  have HT := Lib.hid (askT_ok _ _ _ _ (t : Int) (by omega) (by omega) w h.T1 h.c2)
  have HL := Lib.hid (askL_ok _ _ _ _ (p : Int) (by omega) (by omega) w h.n1 h.c0)
  have c2 := h.c2
  have hlt : t < D.its.length := by rw [h.lits]; exact ht
  have hrow := h.fl t ht
  have hcell : w.cell? ⟨D.gf, t, none⟩ = some (D.its.getD t undef) := by
    rw [h.flb.cell t, List.getD_eq_getElem?_getD]
    simp [hlt]
  have HA := Lib.hid (add_of w0 w (D.its.getD t undef) D.gf t (p : Int) (s.fl.getD t []) hz hs hrow ext hcell (h.flb.frozen t) (h.flb.ne_row (RowN.of_row hrow) (by decide)))
  have H := Lib.hid h
  clear h hrow hcell hz hs
  go_enter Try.func79, Try.ntmps79
  go_wp2_with fail
  refine HT.out.mono ?_
  rintro e w' ⟨rfl, rfl⟩
  go_wp2_with fail
  refine HL.out.mono ?_
  rintro e w' ⟨rfl, rfl⟩
  go_wp2_with fail
  refine HA.out.mono ?_
  rintro e w2 ⟨⟨u, rfl⟩, had⟩
  have HAd := Lib.hid had
  clear had
  go_wp2_with fail
  go_ret
  have h := H.out
  rcases HAd.out with ⟨hq, x⟩ | ⟨hq, v', w1, rfl, h1, h2, h3, h4⟩
  · have e1 : setAdd (s.fl.getD t []) (p : Int) = s.fl.getD t [] := by unfold setAdd; rw [if_pos hq]
    rw [e1, set_getD_self s.fl t (by rw [h.lfl]; exact ht)]
    exact ⟨rfl, D, rfl, h.ext x, Fr.of_ext x, fun g hg => Or.inl hg⟩
  · have e1 : setAdd (s.fl.getD t []) (p : Int) = insAt (s.fl.getD t []) ((s.fl.getD t []).countP (· < (p : Int))) (p : Int) := by unfold setAdd; rw [if_neg (by rw [hq]; decide)]
    rw [e1]
    have fr1 : Fr (fun g => (D.its.getD t undef).ownBlock = some g) w w1 := ⟨h2.os.trans ext.os.symm, h2.tape.trans ext.tape.symm, h2.output.trans ext.output.symm, h4, fun g hg hn => (h3 g hg hn).1⟩
    have hS : ∀ g, (D.its.getD t undef).ownBlock = some g → D.foot g := fun g hg => Or.inr (Or.inr (Or.inr (Or.inr (Or.inr ⟨t, hlt, hg⟩))))
    have hnew := h.putNew t ht fr1 v' _ h1 (fun g hg hn => (h3 g hg hn).2)
    refine ⟨rfl, { D with its := D.its.set t v' }, rfl, hnew, ?_, fun g hg => ?_⟩
    · exact (fr1.mono (fun g _ hg => hS g hg)).setCell (Or.inl (Or.inr (Or.inr (Or.inr (Or.inl rfl))))) _
    · rcases foot_putSet hg with hg | hg
      · exact Or.inl hg
      · by_cases c : g < w.heap.size
        · by_cases c2 : (D.its.getD t undef).ownBlock = some g
          · exact Or.inl (hS g c2)
          · exact absurd hg (h3 g c c2).2
        · exact Or.inr (by omega)
theorem flush_thread (B : Nat) (w : World) (D : DevB) (s : DSt) (h : IsDev B w D s) (t p : Int) (ha : t < 0 ∨ (s.T : Int) ≤ t) :
    Calls Try.prog 79 #[D.ptr, .int .i64 t, .int .i64 p] w fun e w' => e = .returned (.int .i64 1) ∧ w = w' := by
  unfold DevB.ptr
  have HC : Hid (Calls Try.prog 102 #[.pointer (some ⟨D.gd, 0, none⟩), .int .i64 t] w fun e w' => e = .returned (.int .i64 1) ∧ w = w') := by
    rcases ha with ha | ha
    · exact Lib.hid (askT_lo _ _ _ _ t ha w h.T1 h.c2)
    · exact Lib.hid (askT_hi _ _ _ _ t (by omega) w h.T1 h.c2)
  clear h
  go_enter Try.func79, Try.ntmps79
  go_wp2_with fail
  refine HC.out.mono ?_
  rintro e w' ⟨rfl, rfl⟩
  go_wp2_with fail
  go_ret
  exact ⟨rfl, rfl⟩
theorem flush_line (B : Nat) (w : World) (D : DevB) (s : DSt) (h : IsDev B w D s) (t : Nat) (p : Int) (ht : t < s.T) (ha : p < 0 ∨ (s.n : Int) ≤ p) :
    Calls Try.prog 79 #[D.ptr, .int .i64 (t : Int), .int .i64 p] w fun e w' => e = .returned (.int .i64 5) ∧ w = w' := by
  unfold DevB.ptr
  have hT1 := h.T1
  have HT := Lib.hid (askT_ok _ _ _ _ (t : Int) (by omega) (by omega) w h.T1 h.c2)
  have HC : Hid (Calls Try.prog 82 #[.pointer (some ⟨D.gd, 0, none⟩), .int .i64 p] w fun e w' => e = .returned (.int .i64 5) ∧ w = w') := by
    rcases ha with ha | ha
    · exact Lib.hid (askL_lo _ _ _ _ p ha w h.n1 h.c0)
    · exact Lib.hid (askL_hi _ _ _ _ p (by omega) w h.n1 h.c0)
  clear h
  go_enter Try.func79, Try.ntmps79
  go_wp2_with fail
  refine HT.out.mono ?_
  rintro e w' ⟨rfl, rfl⟩
  go_wp2_with fail
  refine HC.out.mono ?_
  rintro e w' ⟨rfl, rfl⟩
  go_wp2_with fail
  go_ret
  exact ⟨rfl, rfl⟩
/-- What hands back no device, and an error. -/
def DevNone (w : World) (k : Int) (r : Ending) (w' : World) : Prop := r = .returned (.tuple #[.pointer none, .int .i64 k]) ∧ Ext w w'
theorem open_thread (w : World) (v : Value) (T : Int) (hT : T < 1 ∨ 64 < T) : Calls Try.prog 37 #[v, .int .i64 T] w (DevNone w 1) := by
  have HM : Hid (Calls Try.prog 67 #[.int .i64 T] w fun e w' => e = .returned (.bool false) ∧ w = w') := by
    rcases hT with h | h
    · exact Lib.hid (mayBe_lo T h w)
    · exact Lib.hid (mayBe_hi T h w)
  go_enter Try.func37, Try.ntmps37
  go_wp2_with fail
  refine HM.out.mono ?_
  rintro e w' ⟨rfl, rfl⟩
  go_wp2_with fail
  go_ret2
  exact ⟨rfl, Ext.refl _⟩
theorem open_form (w : World) (A : Option Addr) (n c T : Nat) (hn : n ≤ 9223372036854775807) (h8 : n % 8 ≠ 0) (T0 : 0 < T) (T1 : T ≤ 64) : Calls Try.prog 37 #[.slice A n c, .int .i64 (T : Int)] w (DevNone w 3) := by
  have HM := Lib.hid (mayBe_ok (T : Int) (by omega) (by omega) w)
  have HC := Lib.hid (cut_form A n c hn h8 w)
  go_enter Try.func37, Try.ntmps37
  go_wp2_with fail
  refine HM.out.mono ?_
  rintro e w' ⟨rfl, rfl⟩
  go_wp2_with fail
  refine HC.out.mono ?_
  rintro e w1 ⟨rfl, x1⟩
  go_wp2_with fail
  go_ret2
  exact ⟨rfl, x1⟩
theorem open_long (w : World) (A : Option Addr) (n c T : Nat) (hn : n ≤ 9223372036854775807) (h8 : n % 8 = 0) (hl : 262144 < n / 8) (T0 : 0 < T) (T1 : T ≤ 64) : Calls Try.prog 37 #[.slice A n c, .int .i64 (T : Int)] w (DevNone w 2) := by
  have HM := Lib.hid (mayBe_ok (T : Int) (by omega) (by omega) w)
  have HC := Lib.hid (cut_long A n c hn h8 hl w)
  go_enter Try.func37, Try.ntmps37
  go_wp2_with fail
  refine HM.out.mono ?_
  rintro e w' ⟨rfl, rfl⟩
  go_wp2_with fail
  refine HC.out.mono ?_
  rintro e w1 ⟨rfl, x1⟩
  go_wp2_with fail
  go_ret2
  exact ⟨rfl, x1⟩
theorem open_none (w : World) (A : Option Addr) (c T : Nat) (hc : c ≤ 9223372036854775807) (T0 : 0 < T) (T1 : T ≤ 64) : Calls Try.prog 37 #[.slice A 0 c, .int .i64 (T : Int)] w (DevNone w 3) := by
  have HM := Lib.hid (mayBe_ok (T : Int) (by omega) (by omega) w)
  have HC := Lib.hid (cut_of A 0 c [] w rfl (by decide) (by omega) hc (none_lim _) (fun h => absurd h (by decide)))
  rw [Nat.zero_mul] at HC
  go_enter Try.func37, Try.ntmps37
  go_wp2_with fail
  refine HM.out.mono ?_
  rintro e w' ⟨rfl, rfl⟩
  go_wp2_with fail
  refine HC.out.mono ?_
  rintro e w1 ⟨v, rfl, hr, x1⟩
  obtain ⟨A', c', rfl, _, _, _, _, _⟩ := hr.form (by decide)
  clear hr
  go_wp2_with fail
  go_ret2
  exact ⟨rfl, x1⟩
set_option maxHeartbeats 400000 in
theorem open_ok (w : World) (A : Option Addr) (m c T : Nat) (zs : List Int) (hl : zs.length = m * 8) (m0 : 0 < m) (m1 : m ≤ 262144) (hcap : m * 8 ≤ c) (hcm : c ≤ 9223372036854775807) (hz : Lim zs 18446744073709551616) (hA : Ints w .u64 A zs) (T0 : 0 < T) (T1 : T ≤ 64) :
    Calls Try.prog 37 #[.slice A (m * 8) c, .int .i64 (T : Int)] w (DevNew w ⟨m, T, zs, zs, List.replicate m 0, List.replicate T []⟩) := by
  have HM := Lib.hid (mayBe_ok (T : Int) (by omega) (by omega) w)
  have HC := Lib.hid (cut_of A m c zs w hl m1 hcap hcm hz hA)
  clear hA hl
  go_enter Try.func37, Try.ntmps37
  go_wp2_with fail
  refine HM.out.mono ?_
  rintro e w' ⟨rfl, rfl⟩
  go_wp2_with fail
  refine HC.out.mono ?_
  rintro e w1 ⟨v, rfl, hr, x1⟩
  obtain ⟨gk, ck, rfl, _, _, _, _⟩ := hr.at_ m0
  have HO := Lib.hid (over_of w.heap.size w1 gk ck m T zs m0 m1 T0 T1 hz x1.size hr)
  clear hr
  have t1 : decide ((m : Int) = 0) = false := by simp; omega
  go_wp2_with fail
  refine HO.out.mono ?_
  rintro e w2 ⟨D, rfl, h1, h2, h3⟩
  go_wp2_with fail
  go_ret2
  exact ⟨D, rfl, h1, x1.trans h2⟩
end Go.Proofs.Ytcelhllhdkminaa
