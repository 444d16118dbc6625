/- Package free: the slots of the free list, and the document's. Conditions: those that each theorem names. -/
import Derived.Test.YtolengkegjipaaaGreatKFreeA
import Derived.Test.YtolengkegjipaaaGreatKGr
import Derived.Test.YtolengkegjipaaaGreatKAt
namespace Go.Proofs.YtolengkegjipaaaGreat
open Go.ChangeShapes Go.WideShapes Go.ChangeAt Go.RowKit
set_option linter.unusedVariables false
theorem filter_ne_len (a : Int) : ∀ l : List Int, l.Nodup → l.length ≤ (l.filter (fun x => decide (x ≠ a))).length + 1
  | [], _ => by simp
  | x :: l, h => by
    have h' := List.nodup_cons.1 h
    by_cases e : x = a
    · have : l.filter (fun y => decide (y ≠ a)) = l := List.filter_eq_self.2 (fun y hy => by
        have : y ≠ a := fun e2 => h'.1 (by rw [e, ← e2]; exact hy)
        simpa using this)
      rw [List.filter_cons_of_neg (by simp [e]), this]
      exact Nat.le_refl _
    · rw [List.filter_cons_of_pos (by simp [e])]
      have := filter_ne_len a l h'.2
      simp only [List.length_cons]
      omega
/-- So many numbers below n, no two the same, are at most n. -/
theorem pigeon : ∀ (n : Nat) (l : List Int), l.Nodup → (∀ x ∈ l, 0 ≤ x ∧ x < (n : Int)) → l.length ≤ n
  | 0, l, _, h => by
    cases l with
    | nil => exact Nat.le_refl _
    | cons x l => have := h x (by simp); omega
  | n + 1, l, hd, h => by
    have h1 := filter_ne_len (n : Int) l hd
    have h2 := pigeon n (l.filter (fun x => decide (x ≠ (n : Int)))) (hd.filter _) (fun x hx => by
      have hx' := List.mem_filter.1 hx
      have := h x hx'.1
      have hne : x ≠ (n : Int) := by simpa using hx'.2
      omega)
    omega
/-- The slots from cur on, and whether each is a slot, and there once. -/
def chain (nx : Int → Int) (n : Nat) : Nat → Int → List Int → List Int × Bool
  | 0, _, out => (out, false)
  | f + 1, cur, out => if cur < 0 then (out, true) else if (n : Int) ≤ cur ∨ cur ∈ out then (out, false) else chain nx n f (nx cur) (out ++ [cur])
theorem chain_end {nx : Int → Int} {n f : Nat} {cur : Int} {out : List Int} (h : cur < 0) : chain nx n (f + 1) cur out = (out, true) := by unfold chain; rw [if_pos h]
theorem chain_bad {nx : Int → Int} {n f : Nat} {cur : Int} {out : List Int} (h : ¬ cur < 0) (h2 : (n : Int) ≤ cur ∨ cur ∈ out) : chain nx n (f + 1) cur out = (out, false) := by unfold chain; rw [if_neg h, if_pos h2]
theorem chain_on {nx : Int → Int} {n f : Nat} {cur : Int} {out : List Int} (h : ¬ cur < 0) (h2 : ¬ ((n : Int) ≤ cur ∨ cur ∈ out)) : chain nx n (f + 1) cur out = chain nx n f (nx cur) (out ++ [cur]) := by
  conv => lhs; unfold chain
  rw [if_neg h, if_neg h2]
/-- The slots met so far. -/
structure Met (n : Nat) (out : List Int) : Prop where
  nd : out.Nodup
  rng : ∀ x ∈ out, 0 ≤ x ∧ x < (n : Int)
theorem Met.nil (n : Nat) : Met n [] := ⟨List.nodup_nil, fun x hx => absurd hx (by simp)⟩
theorem Met.on {n : Nat} {out : List Int} {cur : Int} (h : Met n out) (h0 : ¬ cur < 0) (h2 : ¬ ((n : Int) ≤ cur ∨ cur ∈ out)) : Met n (out ++ [cur]) := by
  have h3 : ¬ (n : Int) ≤ cur := fun e => h2 (Or.inl e)
  have h4 : cur ∉ out := fun e => h2 (Or.inr e)
  refine ⟨List.nodup_append.2 ⟨h.nd, by simp, fun a ha b hb => ?_⟩, fun x hx => ?_⟩
  · have : b = cur := by simpa using hb
    rw [this]
    exact fun e => h4 (by rw [← e]; exact ha)
  · rcases List.mem_append.1 hx with hx | hx
    · exact h.rng x hx
    · have : x = cur := by simpa using hx
      rw [this]
      omega
def metF (n : Nat) (out : List Int) : List Value := flags n (fun i => decide ((i : Int) ∈ out))
theorem metF_nil (n : Nat) : metF n [] = List.replicate n (.bool false) := by
  unfold metF
  rw [show (fun i : Nat => decide ((i : Int) ∈ ([] : List Int))) = fun _ => false from funext fun i => by simp]
  exact flags_no n
theorem metF_on (n p : Nat) (out : List Int) : (metF n out).set p (.bool true) = metF n (out ++ [(p : Int)]) := by
  unfold metF
  rw [flags_set]
  refine flags_congr fun q hq => ?_
  by_cases e : q = p
  · rw [if_pos e, e]
    simp
  · rw [if_neg e]
    have : ¬ (q : Int) = (p : Int) := by omega
    simp [this]
theorem metF_at {n p : Nat} {out : List Int} (h : p < n) : (metF n out)[p]? = some (.bool (decide ((p : Int) ∈ out))) := by
  unfold metF flags
  simp [h]
/-- A slice's length. -/
def sLen : Value → Nat
  | .slice _ n _ => n
  | _ => 0
theorem row_sLen {w : World} {B : Nat} {e : TypeId} {k : IntKind} {v : Value} {zs : List Int} (h : Row w B e k v zs) : sLen v = zs.length := by
  obtain ⟨A, c, e, _⟩ := h.form
  rw [e]
  rfl
theorem fldC1 (t s l b : Int) (w : World) : (Instr.field 23 (.agg #[.int .i64 t, .int .i64 s, .int .i64 l, .int .i64 b]) 1).run Tryz.prog w = .ok (.int .i64 s) w := by kernel_rfl
/-- Slots that are told, and whether. -/
def Told (w : World) (r : List Int × Bool) (e : Ending) (w' : World) : Prop := ∃ v, e = .returned (.tuple #[v, .bool r.2]) ∧ Row w' w.heap.size 3 .i64 v r.1 ∧ Ext w w'
section
variable {Q : Nat → Prop} {wb w0 w : World} {gm gl : Nat} {dv pv : Value} {s : MSt} {F : Nat → Int}
end
end Go.Proofs.YtolengkegjipaaaGreat


/- The document's slots of the free list. Conditions: those that each theorem names. -/
namespace Go.Proofs.YtolengkegjipaaaGreat
open Go.ChangeShapes Go.WideShapes Go.ChangeAt Go.RowKit
set_option linter.unusedVariables false
/-- A config of a ground, in bounds. -/
structure CfgN (t s l b : Nat) : Prop where
  t1 : t ≤ 12
  s1 : s ≤ 60
  s0 : 1 ≤ s
  l1 : l ≤ 64
  b1 : b ≤ 64
end Go.Proofs.YtolengkegjipaaaGreat


/- Grounds that are made of a list of slots. Conditions: those that each theorem names. -/
namespace Go.Proofs.YtolengkegjipaaaGreat
open Go.ChangeShapes Go.WideShapes Go.ChangeAt Go.RowKit
set_option linter.unusedVariables false
def flatQ : List Put → List Value
  | [] => []
  | p :: l => [Value.int .i64 p.1, .int .u64 p.2] ++ flatQ l
theorem flatQ_append : ∀ l m : List Put, flatQ (l ++ m) = flatQ l ++ flatQ m
  | [], _ => rfl
  | p :: l, m => by simp [flatQ, flatQ_append l m]
theorem flatQ_get : ∀ (l : List Put) (i : Nat), i < l.length → (flatQ l)[i * 2]? = some (.int .i64 (l.getD i (0, 0)).1) ∧ (flatQ l)[i * 2 + 1]? = some (.int .u64 (l.getD i (0, 0)).2)
  | [], i, h => absurd h (by simp)
  | p :: l, 0, _ => by simp [flatQ]
  | p :: l, i + 1, h => by
    have h := flatQ_get l i (by simpa using h)
    rw [show (i + 1) * 2 = i * 2 + 1 + 1 by omega]
    simpa [flatQ] using h
theorem put_info : (Tryz.prog.info? 59).map (fun i => (i.zero, i.size, i.bytes)) = some (some (.agg #[.int .i64 0, .int .u64 0]), 2, 16) := by kernel_rfl
/-- A row of puts of the call's own. -/
def PutRow (w : World) (B : Nat) (v : Value) (ys : List Put) : Prop := w.ownsRow B 59 2 v ys.length (flatQ ys)
theorem PutRow.nil (w : World) (B : Nat) : PutRow w B (.slice none 0 0) [] := World.ownsRow_nil w B _ 2
theorem owns_keep9 {w w' : World} {B : Nat} {e : TypeId} {size n : Nat} {v : Value} {xs : List Value} (h : w.ownsRow B e size v n xs) (hk : ∀ g, v.ownBlock = some g → w'.heap[g]? = w.heap[g]?) : w'.ownsRow B e size v n xs := by
  refine ⟨h.1, ?_⟩
  rcases h.2 with h2 | ⟨g, cap, cur, hv, hg, hh, r⟩
  · exact Or.inl h2
  · refine Or.inr ⟨g, cap, cur, hv, hg, ?_, r⟩
    rw [hk g (by rw [hv]; rfl)]; exact hh
theorem PutRow.ext {w w' : World} {B : Nat} {v : Value} {ys : List Put} (h : PutRow w B v ys) (x : Ext w w') : PutRow w' B v ys := owns_keep9 h (fun g hg => x.block g (World.ownsRow.lt h g hg).2)
theorem PutRow.far {w : World} {B : Nat} {v : Value} {ys : List Put} (h : PutRow w B v ys) {p : Addr} (hp : v.ownBlock ≠ some p.block) (u : Value) : PutRow (w.setCell p u) B v ys := owns_keep9 h (fun g hg => Below.heap_setCell w p u g (fun e => hp (by rw [hg, e])))
/-- The numbers of a put that are none too great. -/
def PutFit (p : Put) : Prop := (-9223372036854775808 ≤ p.1 ∧ p.1 < 9223372036854775808) ∧ (0 ≤ p.2 ∧ p.2 < 18446744073709551616)
theorem PutRow.form {w : World} {B : Nat} {v : Value} {ys : List Put} (h : PutRow w B v ys) (hf : ∀ i, i < ys.length → PutFit (ys.getD i (0, 0))) : ∃ A c, v = .slice A ys.length c ∧ ys.length ≤ c ∧ c ≤ maxLen ∧ PutsAt w A ys := by
  have hl := h.1
  rcases h.2 with ⟨rfl, hn⟩ | ⟨g, cap, cur, rfl, hB, hh, hnc, hcm, hcs, ht⟩
  · exact ⟨none, 0, by rw [hn], by omega, Nat.zero_le _, fun h0 => absurd h0 (by omega)⟩
  · refine ⟨_, cap, rfl, hnc, hcm, fun h0 => ⟨⟨g, 0, none⟩, rfl, (Array.getElem?_eq_some_iff.1 hh).1, fun i hi => ?_⟩⟩
    have hc : ∀ j, j < ys.length * 2 → w.cell? ⟨g, j, none⟩ = (flatQ ys)[j]? := fun j hj => by
      have h1 : w.cell? ⟨g, j, none⟩ = cur[j]? := cell_of_row w g j cur 59 (0, 0) hh
      rw [h1, ← ht, List.getElem?_take, if_pos hj, Array.getElem?_toList]
    obtain ⟨g1, g2⟩ := flatQ_get ys i hi
    rw [at0]
    refine ⟨⟨?_, ?_⟩, hf i hi⟩
    · rw [hc _ (by omega)]; exact g1
    · show w.cell? ⟨g, i * 2 + 1, none⟩ = _
      rw [hc _ (by omega)]; exact g2
end Go.Proofs.YtolengkegjipaaaGreat


/- Package free: machines that are made, their steps as one, and the page's example reckoned. Conditions: those that each theorem names. -/
namespace Go.Proofs.YtolengkegjipaaaGreat
open Go.ChangeShapes Go.WideShapes Go.ChangeAt Go.RowKit
set_option linter.unusedVariables false
/-- A machine: which part comes next, the top that was loaded, a slot, whether it is done. -/
structure PMs where
  part : Int
  top : Int
  y : Int
  dn : Bool
deriving DecidableEq
def PMs.cells (x : PMs) (gl : Nat) (t : Int) : List Value := fcells gl t x.part x.top x.dn x.y
structure PMs.Wf (x : PMs) : Prop where
  part : x.part = 0 ∨ x.part = 1 ∨ x.part = 2
  top : W64 x.top
  y : I64 x.y
section
variable {Q : Nat → Prop} {w0 w : World} {gm gp gl : Nat} {dv pv : Value} {s : MSt} {F : Nat → Int} {t : Int} {x : PMs}
end
/-- The page's example. -/
def F9 : Nat → Int := layF 1 2 1 1
end Go.Proofs.YtolengkegjipaaaGreat


/- The page's example of layer 9. Conditions: none. -/
namespace Go.Proofs.YtolengkegjipaaaGreat
open Go.ChangeShapes Go.WideShapes Go.ChangeAt Go.RowKit
set_option linter.unusedVariables false
end Go.Proofs.YtolengkegjipaaaGreat

