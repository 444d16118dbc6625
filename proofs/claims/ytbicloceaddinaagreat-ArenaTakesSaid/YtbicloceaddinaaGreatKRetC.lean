/- Package retire: the slots of a log. Conditions: those that each theorem names. -/
import Derived.Test.YtbicloceaddinaaGreatKRetA
import Derived.Test.YtbicloceaddinaaGreatKLine
import Derived.Test.YtbicloceaddinaaGreatKRetB
namespace Go.Proofs.YtbicloceaddinaaGreat
open Go.ChangeShapes Go.WideShapes Go.ChangeAt Go.RowKit Go.Shelf
set_option linter.unusedVariables false
attribute [local go_sem] Oper.semAt_some
section
variable {Q : Nat → Prop} {wb w0 w : World} {gm gl : Nat} {dv pv : Value} {s : MSt} {F : Nat → Int} {t : Int}
end
end Go.Proofs.YtbicloceaddinaaGreat


/- Package retire: the steps of Reserve, Stamp and Cancel as one each; the page's example of layer 11. Conditions: those that each theorem names. -/
namespace Go.Proofs.YtbicloceaddinaaGreat
open Go.ChangeShapes Go.WideShapes Go.ChangeAt Go.RowKit
set_option linter.unusedVariables false
theorem rvS_wf {L : Int} {F : Nat → Int} {t slot : Int} {x : RvM} {s : MSt} (hL : F 2 = L) (hx : x.Wf L) : (rvS F t slot x s).1.Wf L := by
  obtain ⟨place, part, dn⟩ := x
  obtain ⟨hp, ⟨h0, h1⟩, hlt⟩ := hx
  simp only at hp h0 h1 hlt
  unfold rvS
  cases dn
  · have hl := hlt rfl
    rw [if_neg (by simp)]
    split
    · by_cases hv : peekV s (logN F t place) = 0
      · simp only [hv, if_true]
        exact ⟨Or.inl (Or.inr (Or.inl rfl)), ⟨h0, h1⟩, fun _ => hl⟩
      · simp only [hv, if_false]
        refine ⟨Or.inl (Or.inl rfl), ⟨by show 0 ≤ place + 1; omega, by show place + 1 ≤ L; omega⟩, fun hd => ?_⟩
        have hd' : decide (F 2 ≤ place + 1) = false := hd
        rw [hL] at hd'
        have := of_decide_eq_false hd'
        show place + 1 < L
        omega
    split
    · exact ⟨Or.inl (Or.inr (Or.inr (Or.inl rfl))), ⟨h0, h1⟩, fun _ => hl⟩
    split
    · exact ⟨Or.inl (Or.inr (Or.inr (Or.inr rfl))), ⟨h0, h1⟩, fun _ => hl⟩
    · exact ⟨Or.inr rfl, ⟨h0, h1⟩, fun hd => by cases hd⟩
  · rw [if_pos rfl]
    exact ⟨hp, ⟨h0, h1⟩, hlt⟩
theorem RvM.wf0 {L : Int} (h : 0 < L) : (⟨0, 0, false⟩ : RvM).Wf L := ⟨Or.inl (Or.inl rfl), ⟨Int.le_refl 0, by show (0 : Int) ≤ L; omega⟩, fun _ => h⟩
section
variable {Q : Nat → Prop} {w0 w : World} {gm gp gl : Nat} {dv pv : Value} {s : MSt} {F : Nat → Int} {t slot place : Int}
end
end Go.Proofs.YtbicloceaddinaaGreat

