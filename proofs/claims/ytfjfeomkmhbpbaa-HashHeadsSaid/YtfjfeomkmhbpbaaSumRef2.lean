/- What the reference's sums of bytes and of words answer. Conditions: each argument lies in its type; a slice reads as the list that is named, of up to 10000. -/
import Derived.Test.YtfjfeomkmhbpbaaSumRef
import Derived.Test.YtfjfeomkmhbpbaaArgs
namespace Go.Proofs.Ytfjfeomkmhbpbaa
open Go.ChangeShapes Go.WideShapes Go.ChangeAt Go.RowKit
set_option linter.unusedVariables false

theorem byte_info : (Try.prog.info? 5).map (fun i => (i.zero, i.size, i.bytes)) = some (some (.int .u8 0), 1, 1) := by kernel_rfl

namespace SM
theorem nats_take (l : List Int) (k : Nat) (h : k < l.length) : (l.map Int.toNat).take (k + 1) = (l.map Int.toNat).take k ++ [(l.getD k 0).toNat] := by
  rw [List.take_succ_eq_append_getElem (by simpa using h)]
  simp [List.getD_eq_getElem?_getD, h]
theorem bitsAll_lim (l : List Nat) : Lim (bitsAll l) 2 := by
  induction l with
  | nil => exact none_lim 2
  | cons b l ih =>
    intro j hj
    unfold bitsAll at hj ⊢
    rw [List.length_append] at hj
    by_cases h : j < (bitsOf b 8).length
    · rw [List.getD_eq_getElem?_getD, List.getElem?_append_left h, ← List.getD_eq_getElem?_getD]
      exact bits_lim b 8 j h
    · rw [List.getD_eq_getElem?_getD, List.getElem?_append_right (by omega), ← List.getD_eq_getElem?_getD]
      exact ih _ (by omega)
end SM

namespace SM
def ints (l : List Nat) : List Int := l.map (fun n : Nat => (n : Int))
theorem ints_nats (l : List Nat) : (ints l).map Int.toNat = l := by
  unfold ints
  rw [List.map_map]
  have : (Int.toNat ∘ fun n : Nat => (n : Int)) = id := by funext n; simp
  rw [this, List.map_id]
theorem ints_length (l : List Nat) : (ints l).length = l.length := by unfold ints; simp
theorem ints_snoc (l : List Nat) (n : Nat) : ints (l ++ [n]) = ints l ++ [(n : Int)] := by unfold ints; simp
theorem bytesOf_length (x n : Nat) : (bytesOf x n).length = n := by
  induction n with
  | zero => rfl
  | succ n ih => simp [bytesOf, ih]
theorem bytesAll_length (l : List Nat) : (bytesAll l).length = 8 * l.length := by
  induction l with
  | nil => rfl
  | cons a l ih => simp [bytesAll, ih, bytesOf_length]; omega
theorem bytesOf_small (x n : Nat) : ∀ b ∈ bytesOf x n, b < 256 := by
  induction n with
  | zero => intro b hb; simp [bytesOf] at hb
  | succ n ih =>
    intro b hb
    simp only [bytesOf, List.mem_append, List.mem_singleton] at hb
    rcases hb with hb | rfl
    · exact ih b hb
    · exact Nat.mod_lt _ (by omega)
theorem bytesAll_small (l : List Nat) : ∀ b ∈ bytesAll l, b < 256 := by
  induction l with
  | nil => intro b hb; simp [bytesAll] at hb
  | cons a l ih =>
    intro b hb
    simp only [bytesAll, List.mem_append] at hb
    rcases hb with hb | hb
    · exact bytesOf_small a 8 b hb
    · exact ih b hb
theorem ints_lim (l : List Nat) (h : ∀ b ∈ l, b < 256) : Lim (ints l) 256 := fun j hj => by
  rw [ints_length] at hj
  have e : (ints l).getD j 0 = ((l[j] : Nat) : Int) := by unfold ints; simp [List.getD_eq_getElem?_getD, hj]
  have := h l[j] (List.getElem_mem hj)
  rw [e]
  omega
theorem byte_pow (x k : Nat) : x / 256 ^ k / 256 = x / 256 ^ (k + 1) := by rw [Nat.div_div_eq_div_mul, Nat.pow_succ]
end SM

end Go.Proofs.Ytfjfeomkmhbpbaa
