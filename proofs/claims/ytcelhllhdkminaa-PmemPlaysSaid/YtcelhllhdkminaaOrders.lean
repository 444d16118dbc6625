/- A statement whose order is open, walked order by order: all orders are listed, and each is a plain row of operations. Conditions: the program follows mixed orders. -/
import Derived.Test.YtcelhllhdkminaaBase
import Derived.OrdersIn
import Derived.TacticsIn
import Derived.Orders
namespace Go.Proofs.Ytcelhllhdkminaa
open Go.RowKit
set_option linter.unusedVariables false

/-- All orders in which the operations that are not listed yet may come. -/
def orders (ops : Array Oper) : Nat → Array Bool → List (List Nat)
  | 0, _ => [[]]
  | fuel + 1, listed =>
    match Region.ready .any ops listed with
    | [] => [[]]
    | r :: rs => (r :: rs).flatMap fun i => (orders ops fuel (listed.setIfInBounds i true)).map (i :: ·)

theorem mem_orders (ops : Array Oper) : ∀ (fuel t : Nat) (listed : Array Bool), Region.linearise.go .any ops fuel t listed [] ∈ orders ops fuel listed := by
  intro fuel
  induction fuel with
  | zero => intro t listed; simp [Region.linearise.go, orders]
  | succ fuel ih =>
    intro t listed
    simp only [Region.linearise.go]
    change (match (Region.ready .any ops listed)[t % (Region.ready .any ops listed).length]? with
      | some i => Region.linearise.go .any ops fuel (t / (Region.ready .any ops listed).length) (listed.setIfInBounds i true) [i]
      | none => [].reverse) ∈ orders ops (fuel + 1) listed
    unfold orders
    cases hr : Region.ready .any ops listed with
    | nil => simp
    | cons x xs =>
      have hlt : t % (x :: xs).length < (x :: xs).length := Nat.mod_lt _ (by simp)
      rw [List.getElem?_eq_getElem hlt]
      simp only []
      rw [linearise_go_acc, List.reverse_singleton, List.singleton_append, List.mem_flatMap]
      exact ⟨_, List.getElem_mem hlt, List.mem_map.2 ⟨_, ih _ _, rfl⟩⟩

section
variable {F : Fence} {n : Nat} {P : Program} {ops : Array Oper} {Q : Exit → Act → World → Prop}
theorem wpOpsIn_listed (l : List Nat) : ∀ (a : Act) (w : World), wpListIn F n P ops Q (l.filterMap (ops[·]?)) a w → wpOpsIn F n P ops Q l a w := by
  induction l with
  | nil => intro a w h; exact h
  | cons i l ih =>
    intro a w h
    rw [wpOpsIn_cons]
    unfold wpOpIn
    rw [List.filterMap_cons] at h
    cases ho : ops[i]? with
    | none => rw [ho] at h; exact ih a w h
    | some o =>
      rw [ho] at h
      simp only [wpListIn] at h ⊢
      split at h
      · rename_i hw
        rw [if_pos hw]
        exact Oper.wpIn_mono (fun a w k => ih a w k) h
      · rename_i hw
        rw [if_neg hw]
        exact ⟨h.1, ih _ _ h.2⟩
/-- Whatever order is drawn, it is one of those listed. -/
theorem wpIn_region_orders {id : Nat} {a : Act} {w : World} (hm : P.follows .mixedOrders = true) (L : List (List Nat)) (hL : orders ops ops.size (Array.replicate ops.size false) = L)
    (h : ∀ l ∈ L, wpListIn F n P ops Q (l.filterMap (ops[·]?)) a w.drew) : (Code.region id ops true).wpIn F n P Q a w :=
  wpIn_region_draw fun t => by
    simp only [Region.schedule, hm, Bool.true_or, if_true]
    exact wpOpsIn_listed _ a _ (h _ (hL ▸ mem_orders ops ops.size t _))
theorem wpOps_listed (l : List Nat) : ∀ (a : Act) (w : World), wpList P ops Q (l.filterMap (ops[·]?)) a w → wpOps P ops Q l a w := by
  induction l with
  | nil => intro a w h; exact h
  | cons i l ih =>
    intro a w h
    rw [wpOps_cons]
    unfold wpOp
    rw [List.filterMap_cons] at h
    cases ho : ops[i]? with
    | none => rw [ho] at h; exact ih a w h
    | some o =>
      rw [ho] at h
      simp only [wpList] at h ⊢
      split at h
      · rename_i hw
        rw [if_pos hw]
        rcases h with h | h
        · exact Or.inl (Oper.wp_mono (fun a w k => ih a w k) h)
        · exact Or.inr h
      · rename_i hw
        rw [if_neg hw]
        exact ih _ _ h
theorem wp_region_orders {id : Nat} {a : Act} {w : World} (hm : P.follows .mixedOrders = true) (L : List (List Nat)) (hL : orders ops ops.size (Array.replicate ops.size false) = L)
    (h : ∀ l ∈ L, wpList P ops Q (l.filterMap (ops[·]?)) a w.drew) : (Code.region id ops true).wp P Q a w :=
  wp_region_draw fun t => by
    simp only [Region.schedule, hm, Bool.true_or, if_true]
    exact wpOps_listed _ a _ (h _ (hL ▸ mem_orders ops ops.size t _))
end
end Go.Proofs.Ytcelhllhdkminaa
