/- Read, Cut and Image of package lines; Bytes and Words of the document's answer for it; a text's string. Conditions: those that each theorem names. -/
import Derived.Test.YtndplpfbohigpaaGreatLineGather
import Derived.Laws.BytesString
import Derived.Laws.IdiomStrings
namespace Go.Proofs.YtndplpfbohigpaaGreat
open Go.ChangeShapes Go.WideShapes Go.ChangeAt Go.RowKit
set_option linter.unusedVariables false
set_option maxHeartbeats 400000 in
theorem cut_of (A : Option Addr) (m cap : Nat) (zs : List Int) (w : World) (hl : zs.length = m * 8) (hm : m ≤ 262144) (hcap : m * 8 ≤ cap) (hcm : cap ≤ 9223372036854775807) (hz : Lim zs 18446744073709551616) (hA : Ints w .u64 A zs) :
    Calls Tryz.prog 193 #[.slice A (m * 8) cap] w (LinesBack w m zs) := by
  have HC := Lib.hid (gatherW_of A m cap zs w hl hm hcap hcm hz hA)
  clear hl
  go_enter Tryz.func193, Tryz.ntmps193
  go_wp2_with fail
  refine HC.out.mono ?_
  rintro e w' ⟨v, rfl, hrow, hx⟩
  go_wp2_with fail
  go_ret2
  exact ⟨v, rfl, hrow, hx⟩
/-- The string of bytes. -/
def strOf (zs : List Int) : ByteArray := ⟨(zs.map fun n => UInt8.ofNat n.toNat).toArray⟩
theorem conv_str (W : World) (A : Option Addr) (n c : Nat) (zs : List Int) (hn : zs.length = n) (hA : Ints W .u8 A zs) (hN : A = none → n = 0) :
    (convert 76 9 (.slice A n c)).run Tryz.prog W = .ok (.string (strOf zs)) W := by
  rw [run_convert_bytes_string W 76 9 5 A n c Tryz.underlying76 Tryz.underlying5 Tryz.underlying9]
  cases A with
  | none =>
    have h0 := hN rfl
    subst h0
    have : zs = [] := List.eq_nil_of_length_eq_zero hn
    subst this
    simp [Conv.bytesToString, strOf]
    rfl
  | some ad =>
    have hl := run_loadCells_list (P := Tryz.prog) W ad (zs.map (Value.int .u8)) (ints_cells hA)
    rw [List.length_map, hn] at hl
    rw [run_bytesToString W ad n c zs hl]
    have fp : ∀ (ns : List Int) (s : ByteArray), ns.foldl (fun r n => r.push (UInt8.ofNat n.toNat)) s = ⟨s.data ++ (ns.map fun n => UInt8.ofNat n.toNat).toArray⟩ := by
      intro ns
      induction ns with
      | nil => intro s; simp
      | cons n ns ih => intro s; rw [List.foldl_cons, ih]; simp [ByteArray.push]
    rw [fp]
    congr 2
    unfold strOf
    congr 1
    show (#[] : Array UInt8) ++ _ = _
    simp
end Go.Proofs.YtndplpfbohigpaaGreat
