/- Layer 8: the document's Apply, of any operation. Conditions: those that each theorem names. -/
import Derived.Test.YthbngenjcgclgaaMod40
import Derived.Test.YthbngenjcgclgaaMod41
import Derived.Test.YthbngenjcgclgaaMod43
namespace Go.Proofs.Ythbngenjcgclgaa
open Go.ChangeShapes Go.WideShapes Go.ChangeAt Go.RowKit
set_option linter.unusedVariables false
theorem rApply_ok (w : World) (A0 A1 A2 : Option Addr) (n0 n1 n2 c0 c1 c2 : Nat) (st : Sta) (k a b : Int) (h : StAt w A0 A1 A2 st) (hl : Lens st n0 n1 n2) (m0 : n0 ≤ 1000) (m1 : n1 ≤ 1000) (m2 : n2 ≤ 1000) (hcap : n0 ≤ c0 ∧ c0 ≤ 9223372036854775807) (up : st.m.Pairwise (fun p q => p.1 < q.1)) :
    Calls Try.prog 10 #[.agg #[.slice A0 n0 c0, .slice A1 n1 c1, .slice A2 n2 c2], .agg #[.int .i64 k, .int .u32 a, .int .u32 b]] w (RPost w A0 A1 A2 n0 n1 n2 (doS st k a b).1 (doS st k a b).2) := by
  by_cases hlo : k < 1
  · exact rApp0_low w A0 A1 A2 n0 n1 n2 c0 c1 c2 st a b h hl m0 m1 m2 hcap k hlo
  by_cases hhi : 8 < k
  · exact rApp0_high w A0 A1 A2 n0 n1 n2 c0 c1 c2 st a b h hl m0 m1 m2 hcap k hhi
  have hk : k = 1 ∨ k = 2 ∨ k = 3 ∨ k = 4 ∨ k = 5 ∨ k = 6 ∨ k = 7 ∨ k = 8 := by omega
  rcases hk with rfl | rfl | rfl | rfl | rfl | rfl | rfl | rfl
  · exact rApp1 w A0 A1 A2 n0 n1 n2 c0 c1 c2 st a b h hl m0 m1 m2 hcap
  · by_cases hn : n0 = 0
    · exact rApp2_none w A0 A1 A2 n0 n1 n2 c0 c1 c2 st a b h hl m0 m1 m2 hcap hn
    · have hq := hl.q
      have hqs := h.q
      cases hz : st.q with
      | nil => rw [hz] at hq; simp at hq; omega
      | cons z zs =>
        rw [hz] at hq
        obtain ⟨ad, hA, _, _⟩ := hqs (by rw [hz]; simp)
        by_cases hc : c0 = 1
        · exact rApp2_one w A0 A1 A2 n0 n1 n2 c0 c1 c2 st a b h hl m0 m1 m2 hcap z zs zs.length ad hz hA (by rw [← hq]; simp) hc
        · exact rApp2_more w A0 A1 A2 n0 n1 n2 c0 c1 c2 st a b h hl m0 m1 m2 hcap z zs zs.length ad hz hA (by rw [← hq]; simp) (by omega)
  · cases hh : hasI st.s a
    · exact rApp3_false w A0 A1 A2 n0 n1 n2 c0 c1 c2 st a b h hl m0 m1 m2 hcap hh
    · exact rApp3_true w A0 A1 A2 n0 n1 n2 c0 c1 c2 st a b h hl m0 m1 m2 hcap hh
  · cases hh : hasI st.s a
    · exact rApp4_false w A0 A1 A2 n0 n1 n2 c0 c1 c2 st a b h hl m0 m1 m2 hcap hh
    · exact rApp4_true w A0 A1 A2 n0 n1 n2 c0 c1 c2 st a b h hl m0 m1 m2 hcap hh
  · cases hh : hasI st.s a
    · exact rApp5_false w A0 A1 A2 n0 n1 n2 c0 c1 c2 st a b h hl m0 m1 m2 hcap hh
    · exact rApp5_true w A0 A1 A2 n0 n1 n2 c0 c1 c2 st a b h hl m0 m1 m2 hcap hh
  · cases hh : hasP st.m a
    · exact rApp6_false w A0 A1 A2 n0 n1 n2 c0 c1 c2 st a b h hl m0 m1 m2 hcap up hh
    · exact rApp6_true w A0 A1 A2 n0 n1 n2 c0 c1 c2 st a b h hl m0 m1 m2 hcap up hh
  · cases hh : hasP st.m a
    · exact rApp7_false w A0 A1 A2 n0 n1 n2 c0 c1 c2 st a b h hl m0 m1 m2 hcap up hh
    · exact rApp7_true w A0 A1 A2 n0 n1 n2 c0 c1 c2 st a b h hl m0 m1 m2 hcap up hh
  · cases hh : hasP st.m a
    · exact rApp8_false w A0 A1 A2 n0 n1 n2 c0 c1 c2 st a b h hl m0 m1 m2 hcap up hh
    · exact rApp8_true w A0 A1 A2 n0 n1 n2 c0 c1 c2 st a b h hl m0 m1 m2 hcap up hh
end Go.Proofs.Ythbngenjcgclgaa
