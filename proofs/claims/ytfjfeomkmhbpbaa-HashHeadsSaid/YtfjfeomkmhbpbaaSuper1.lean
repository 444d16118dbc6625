/- What Right of package super and of the document's answer for it tell; the words of a config's line, and its sum. Conditions: those that each theorem names. -/
import Derived.Test.YtfjfeomkmhbpbaaSumRef2
import Derived.Laws.CopyOwn
namespace Go.Proofs.Ytfjfeomkmhbpbaa
open Go.ChangeShapes Go.WideShapes Go.ChangeAt Go.RowKit
set_option linter.unusedVariables false

def CfgOk (t s l b : Int) : Prop := (1 ≤ t ∧ t ≤ 64) ∧ (1 ≤ s ∧ s ≤ 65536) ∧ (1 ≤ l ∧ l ≤ 64) ∧ (1 ≤ b ∧ b ≤ 64)
theorem cfg_em (t s l b : Int) : CfgOk t s l b ∨ ¬ CfgOk t s l b := Classical.em _
theorem retb {a b : Bool} (h : a = b) : Ending.returned (.bool a) = .returned (.bool b) := by rw [h]

theorem within_yes (n m : Int) (w : World) (h : 1 ≤ n ∧ n ≤ m) :
    Calls Try.prog 51 #[.int .i64 n, .int .i64 m] w fun e w' => e = .returned (.bool true) ∧ w = w' := by
  obtain ⟨h1, h2⟩ := h
  go_enter Try.func51, Try.ntmps51
  go_wp2
  all_goals first | (go_ret; exact ⟨rfl, rfl⟩) | omega
theorem within_no (n m : Int) (w : World) (h : ¬ (1 ≤ n ∧ n ≤ m)) :
    Calls Try.prog 51 #[.int .i64 n, .int .i64 m] w fun e w' => e = .returned (.bool false) ∧ w = w' := by
  by_cases h1 : 1 ≤ n
  · have h2 : ¬ n ≤ m := fun x => h ⟨h1, x⟩
    clear h
    go_enter Try.func51, Try.ntmps51
    go_wp2
    all_goals first | (go_ret; exact ⟨rfl, rfl⟩) | omega
  · clear h
    go_enter Try.func51, Try.ntmps51
    go_wp2
    all_goals first | (go_ret; exact ⟨rfl, rfl⟩) | omega

theorem right_yes (t s l b : Int) (w : World) (h : CfgOk t s l b) :
    Calls Try.prog 31 #[.agg #[.int .i64 t, .int .i64 s, .int .i64 l, .int .i64 b]] w fun e w' => e = .returned (.bool true) ∧ Ext w w' := by
  obtain ⟨h1, h2, h3, h4⟩ := h
  go_enter Try.func31, Try.ntmps31
  go_wp2_with fail
  refine (within_yes t 64 _ h1).mono ?_
  rintro e w' ⟨rfl, rfl⟩
  go_wp2_with fail
  refine (within_yes s 65536 _ h2).mono ?_
  rintro e w' ⟨rfl, rfl⟩
  go_wp2_with fail
  refine (within_yes l 64 _ h3).mono ?_
  rintro e w' ⟨rfl, rfl⟩
  go_wp2_with fail
  refine (within_yes b 64 _ h4).mono ?_
  rintro e w' ⟨rfl, rfl⟩
  go_wp2_with fail
  go_ret
  exact ⟨rfl, (Ext.refl w).alloc _⟩
theorem right_no (t s l b : Int) (w : World) (h : ¬ CfgOk t s l b) :
    Calls Try.prog 31 #[.agg #[.int .i64 t, .int .i64 s, .int .i64 l, .int .i64 b]] w fun e w' => e = .returned (.bool false) ∧ Ext w w' := by
  by_cases h1 : 1 ≤ t ∧ t ≤ 64
  · by_cases h2 : 1 ≤ s ∧ s ≤ 65536
    · by_cases h3 : 1 ≤ l ∧ l ≤ 64
      · have h4 : ¬ (1 ≤ b ∧ b ≤ 64) := fun x => h ⟨h1, h2, h3, x⟩
        clear h
        go_enter Try.func31, Try.ntmps31
        go_wp2_with fail
        refine (within_yes t 64 _ h1).mono ?_
        rintro e w' ⟨rfl, rfl⟩
        go_wp2_with fail
        refine (within_yes s 65536 _ h2).mono ?_
        rintro e w' ⟨rfl, rfl⟩
        go_wp2_with fail
        refine (within_yes l 64 _ h3).mono ?_
        rintro e w' ⟨rfl, rfl⟩
        go_wp2_with fail
        refine (within_no b 64 _ h4).mono ?_
        rintro e w' ⟨rfl, rfl⟩
        go_wp2_with fail
        go_ret
        exact ⟨rfl, (Ext.refl w).alloc _⟩
      · clear h
        go_enter Try.func31, Try.ntmps31
        go_wp2_with fail
        refine (within_yes t 64 _ h1).mono ?_
        rintro e w' ⟨rfl, rfl⟩
        go_wp2_with fail
        refine (within_yes s 65536 _ h2).mono ?_
        rintro e w' ⟨rfl, rfl⟩
        go_wp2_with fail
        refine (within_no l 64 _ h3).mono ?_
        rintro e w' ⟨rfl, rfl⟩
        go_wp2_with fail
        go_ret
        exact ⟨rfl, (Ext.refl w).alloc _⟩
    · clear h
      go_enter Try.func31, Try.ntmps31
      go_wp2_with fail
      refine (within_yes t 64 _ h1).mono ?_
      rintro e w' ⟨rfl, rfl⟩
      go_wp2_with fail
      refine (within_no s 65536 _ h2).mono ?_
      rintro e w' ⟨rfl, rfl⟩
      go_wp2_with fail
      go_ret
      exact ⟨rfl, (Ext.refl w).alloc _⟩
  · clear h
    go_enter Try.func31, Try.ntmps31
    go_wp2_with fail
    refine (within_no t 64 _ h1).mono ?_
    rintro e w' ⟨rfl, rfl⟩
    go_wp2_with fail
    go_ret
    exact ⟨rfl, (Ext.refl w).alloc _⟩

theorem rright_yes (t s l b : Int) (w : World) (h : CfgOk t s l b) :
    Calls Try.prog 30 #[.agg #[.int .i64 t, .int .i64 s, .int .i64 l, .int .i64 b]] w fun e w' => e = .returned (.bool true) ∧ Ext w w' := by
  obtain ⟨⟨h1, h2⟩, ⟨h3, h4⟩, ⟨h5, h6⟩, h7, h8⟩ := h
  go_enter Try.func30, Try.ntmps30
  go_wp2
  all_goals first | (go_ret; exact ⟨rfl, (Ext.refl w).alloc _⟩) | omega
theorem cfg_first {t s l b : Int} (h : ¬ CfgOk t s l b) : (¬ 1 ≤ t) ∨ (1 ≤ t ∧ ¬ t ≤ 64) ∨ (1 ≤ t ∧ t ≤ 64 ∧ ¬ 1 ≤ s) ∨ (1 ≤ t ∧ t ≤ 64 ∧ 1 ≤ s ∧ ¬ s ≤ 65536) ∨ (1 ≤ t ∧ t ≤ 64 ∧ 1 ≤ s ∧ s ≤ 65536 ∧ ¬ 1 ≤ l) ∨ (1 ≤ t ∧ t ≤ 64 ∧ 1 ≤ s ∧ s ≤ 65536 ∧ 1 ≤ l ∧ ¬ l ≤ 64) ∨ (1 ≤ t ∧ t ≤ 64 ∧ 1 ≤ s ∧ s ≤ 65536 ∧ 1 ≤ l ∧ l ≤ 64 ∧ ¬ 1 ≤ b) ∨ (1 ≤ t ∧ t ≤ 64 ∧ 1 ≤ s ∧ s ≤ 65536 ∧ 1 ≤ l ∧ l ≤ 64 ∧ 1 ≤ b ∧ ¬ b ≤ 64) := by
  unfold CfgOk at h
  omega
theorem rright_no (t s l b : Int) (w : World) (h : ¬ CfgOk t s l b) :
    Calls Try.prog 30 #[.agg #[.int .i64 t, .int .i64 s, .int .i64 l, .int .i64 b]] w fun e w' => e = .returned (.bool false) ∧ Ext w w' := by
  rcases cfg_first h with h | ⟨h1, h⟩ | ⟨h1, h2, h⟩ | ⟨h1, h2, h3, h⟩ | ⟨h1, h2, h3, h4, h⟩ | ⟨h1, h2, h3, h4, h5, h⟩ | ⟨h1, h2, h3, h4, h5, h6, h⟩ | ⟨h1, h2, h3, h4, h5, h6, h7, h⟩
  all_goals
    go_enter Try.func30, Try.ntmps30
    go_wp2
    go_ret
    exact ⟨rfl, (Ext.refl w).alloc _⟩
end Go.Proofs.Ytfjfeomkmhbpbaa
