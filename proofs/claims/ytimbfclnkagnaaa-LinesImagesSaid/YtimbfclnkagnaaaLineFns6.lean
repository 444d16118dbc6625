/- Read, Cut and Image of package lines; Bytes and Words of the document's answer for it; a text's string. Conditions: those that each theorem names. -/
import Derived.Test.YtimbfclnkagnaaaLineGather
import Derived.Laws.BytesString
import Derived.Laws.IdiomStrings
namespace Go.Proofs.Ytimbfclnkagnaaa
open Go.ChangeShapes Go.WideShapes Go.ChangeAt Go.RowKit
set_option linter.unusedVariables false
set_option maxHeartbeats 400000 in
theorem cut_of (A : Option Addr) (m cap : Nat) (zs : List Int) (w : World) (hl : zs.length = m * 8) (hm : m ≤ 262144) (hcap : m * 8 ≤ cap) (hcm : cap ≤ 9223372036854775807) (hz : Lim zs 18446744073709551616) (hA : Ints w .u64 A zs) :
    Calls Try.prog 23 #[.slice A (m * 8) cap] w (LinesBack w m zs) := by
  have HC := Lib.hid (gatherW_of A m cap zs w hl hm hcap hcm hz hA)
  clear hl
  go_enter Try.func23, Try.ntmps23
  go_wp2_with fail
  refine HC.out.mono ?_
  rintro e w' ⟨v, rfl, hrow, hx⟩
  go_wp2_with fail
  go_ret2
  exact ⟨v, rfl, hrow, hx⟩
set_option maxHeartbeats 400000 in
theorem image_of (A : Option Addr) (m cap : Nat) (zs : List Int) (w : World) (hl : zs.length = m * 64) (hm : m ≤ 262144) (hcap : m * 64 ≤ cap) (hcm : cap ≤ 9223372036854775807) (hz : Lim zs 256) (hA : Ints w .u8 A zs) :
    Calls Try.prog 19 #[.slice A (m * 64) cap] w (LinesBack w m (LM.wordsOf zs)) := by
  have HC := Lib.hid (gatherB_of A m cap zs w hl hm hcap hcm hz hA)
  clear hl
  go_enter Try.func19, Try.ntmps19
  go_wp2_with fail
  refine HC.out.mono ?_
  rintro e w' ⟨v, rfl, hrow, hx⟩
  go_wp2_with fail
  go_ret2
  exact ⟨v, rfl, hrow, hx⟩
set_option maxRecDepth 100000 in
set_option maxHeartbeats 400000 in
theorem read_no (A : Option Addr) (n cap : Nat) (w : World) (hn : n ≤ 9223372036854775807) (h : n ≠ 64) :
    Calls Try.prog 14 #[.slice A n cap] w fun e w' => e = .returned (.tuple #[.agg z8, .int .i64 3]) ∧ Ext w w' := by
  have t1 : ((n : Int) != 64) = true := by rw [bne_iff_ne]; omega
  clear h
  go_enter Try.func14, Try.ntmps14
  go_wp2_with fail
  exact bodyPost_ret (v := .tuple #[.agg z8, .int .i64 3]) (by simp [results, Try.results14, go_sem, z8]) rfl ⟨rfl, by repeat (first | exact Ext.refl w | refine Ext.alloc ?_ _ | refine Ext.setCell ?_ (by simp) _)⟩
set_option maxRecDepth 100000 in
set_option maxHeartbeats 800000 in
theorem read_of (ad : Addr) (cap : Nat) (zs : List Int) (a0 a1 a2 a3 a4 a5 a6 a7 : Int) (w : World) (hl : zs.length = 64) (hcap : 64 ≤ cap) (hcm : cap ≤ 9223372036854775807) (hz : Lim zs 256) (hA : Ints w .u8 (some ad) zs) (hws : LM.wordsOf zs = [a0, a1, a2, a3, a4, a5, a6, a7]) :
    Calls Try.prog 14 #[.slice (some ad) 64 cap] w fun e w' => e = .returned (.tuple #[.agg #[.int .u64 a0, .int .u64 a1, .int .u64 a2, .int .u64 a3, .int .u64 a4, .int .u64 a5, .int .u64 a6, .int .u64 a7], .int .i64 0]) ∧ Ext w w' := by
  have HC := Lib.hid (fun W (h : Ints W .u8 (some ad) zs) => line_of ad cap zs W hl hcap hcm hz h)
  rw [hws, lineV8] at HC
  clear hl hws
  have HI := Lib.hid hA
  clear hA
  go_enter Try.func14, Try.ntmps14
  go_wp2_with fail
  refine (HC.out _ (by exact HI.out.ext ((Ext.refl w).alloc _))).mono ?_
  rintro e w' ⟨rfl, hx⟩
  have hN : w'.heap[w.heap.size]? = some (.cells z8 24 (0, 0)) := (hx.block _ (by simp)).trans (World.alloc_heap_new w _)
  have hB' : Ext w w' := ((Ext.refl w).alloc _).trans hx
  have q0 : w'.cell? ⟨w.heap.size, 0, none⟩ = some (.int .u64 0) := by simp [World.cell?, hN, z8]
  have q1 : w'.cell? ⟨w.heap.size, 1, none⟩ = some (.int .u64 0) := by simp [World.cell?, hN, z8]
  have q2 : w'.cell? ⟨w.heap.size, 2, none⟩ = some (.int .u64 0) := by simp [World.cell?, hN, z8]
  have q3 : w'.cell? ⟨w.heap.size, 3, none⟩ = some (.int .u64 0) := by simp [World.cell?, hN, z8]
  have q4 : w'.cell? ⟨w.heap.size, 4, none⟩ = some (.int .u64 0) := by simp [World.cell?, hN, z8]
  have q5 : w'.cell? ⟨w.heap.size, 5, none⟩ = some (.int .u64 0) := by simp [World.cell?, hN, z8]
  have q6 : w'.cell? ⟨w.heap.size, 6, none⟩ = some (.int .u64 0) := by simp [World.cell?, hN, z8]
  have q7 : w'.cell? ⟨w.heap.size, 7, none⟩ = some (.int .u64 0) := by simp [World.cell?, hN, z8]
  have qf : ∀ j, w'.frozen? ⟨w.heap.size, j, none⟩ = false := fun j => by simp [World.frozen?, hN]
  have HX := Lib.hid (set8 w' w.heap.size 24 z8 rfl hN a0 a1 a2 a3 a4 a5 a6 a7)
  clear hN hx
  go_wp2_with fail
  obtain ⟨h8, ht⟩ := HX.out
  generalize ((((((((w'.setCell ⟨w.heap.size, 0, none⟩ (.int .u64 a0)).setCell ⟨w.heap.size, 1, none⟩ (.int .u64 a1)).setCell ⟨w.heap.size, 2, none⟩ (.int .u64 a2)).setCell ⟨w.heap.size, 3, none⟩ (.int .u64 a3)).setCell ⟨w.heap.size, 4, none⟩ (.int .u64 a4)).setCell ⟨w.heap.size, 5, none⟩ (.int .u64 a5)).setCell ⟨w.heap.size, 6, none⟩ (.int .u64 a6)).setCell ⟨w.heap.size, 7, none⟩ (.int .u64 a7)) = Y at *
  have hExt : Ext w Y := ⟨ht.os.trans hB'.os, ht.tape.trans hB'.tape, ht.output.trans hB'.output, by have := hB'.size; have := ht.size; omega, fun k hk => (ht.other k (by omega)).trans (hB'.block k hk)⟩
  have y0 : Y.cell? ⟨w.heap.size, 0, none⟩ = some (.int .u64 a0) := by simp [World.cell?, h8]
  have y1 : Y.cell? ⟨w.heap.size, 1, none⟩ = some (.int .u64 a1) := by simp [World.cell?, h8]
  have y2 : Y.cell? ⟨w.heap.size, 2, none⟩ = some (.int .u64 a2) := by simp [World.cell?, h8]
  have y3 : Y.cell? ⟨w.heap.size, 3, none⟩ = some (.int .u64 a3) := by simp [World.cell?, h8]
  have y4 : Y.cell? ⟨w.heap.size, 4, none⟩ = some (.int .u64 a4) := by simp [World.cell?, h8]
  have y5 : Y.cell? ⟨w.heap.size, 5, none⟩ = some (.int .u64 a5) := by simp [World.cell?, h8]
  have y6 : Y.cell? ⟨w.heap.size, 6, none⟩ = some (.int .u64 a6) := by simp [World.cell?, h8]
  have y7 : Y.cell? ⟨w.heap.size, 7, none⟩ = some (.int .u64 a7) := by simp [World.cell?, h8]
  exact bodyPost_ret (v := .tuple #[.agg #[.int .u64 a0, .int .u64 a1, .int .u64 a2, .int .u64 a3, .int .u64 a4, .int .u64 a5, .int .u64 a6, .int .u64 a7], .int .i64 0]) (by simp [results, Try.results14, go_sem, y0, y1, y2, y3, y4, y5, y6, y7]) rfl ⟨rfl, hExt⟩
set_option maxRecDepth 100000 in
set_option maxHeartbeats 400000 in
theorem refBytes_of (w : World) (A : Option Addr) (c : Nat) (zs : List Int) (hl : zs.length ≤ 10000000) (hlim : Lim zs 18446744073709551616) (hA : Ints w .u64 A zs) :
    Calls Try.prog 15 #[.slice A zs.length c] w (RowBack w 5 .u8 (LM.bytesOf zs)) := by
  go_enter Try.func15, Try.ntmps15
  go_wp2_with fail
  go_loopw [3, 4] (fun u i wr => ∃ k : Nat, k ≤ zs.length ∧ i = .int .i64 k ∧ Row wr w.heap.size 5 .u8 u (LM.bytesOf (zs.take k)) ∧ Ext w wr) (fun _ i _ => zs.length - (intOf i).toNat)
  case atStart => exact ⟨0, Nat.zero_le _, rfl, by simpa [LM.bytesOf] using Row.nil _ _ _ _, Ext.refl _⟩
  case round =>
    obtain ⟨k, hk, rfl, hrow', hext⟩ := hrel
    by_cases hlt : k < zs.length
    · have hd : decide (k < zs.length) = true := by simp; omega
      obtain ⟨ad, rfl, hb, hc⟩ := (hA.ext hext) (by omega)
      have hcell := hc k hlt
      have hlk := hlim k hlt
      clear hc
      have HB := Lib.hid (LM.bytesOf_take zs k hlt)
      have hx0 : zs.getD k 0 = zs[k] := by simp [List.getD_eq_getElem?_getD, hlt]
      rw [hx0] at hcell hlk
      clear hx0
      generalize zs[k] = x at *
      have HL := Lib.hid (show (LM.bytesOf (zs.take k)).length < 200000000 from by rw [LM.bytesOf_len, List.length_take]; omega)
      generalize hP : LM.bytesOf (zs.take k) = P at *
      have HP := Lib.hid hP
      clear hP
      go_wp2_with fail
      generalize wr = w2 at *
      go_loopw [3, 5, 6] (fun u y j wr => ∃ m : Nat, m ≤ 8 ∧ j = .int .i64 m ∧ y = .int .u64 (x / 256 ^ m) ∧ Row wr w.heap.size 5 .u8 u (P ++ LM.wbs x m) ∧ Ext w wr) (fun _ _ j _ => 8 - (intOf j).toNat)
      case atStart => exact ⟨0, Nat.zero_le _, rfl, by simp, by simpa [LM.wbs] using hrow', hext⟩
      case round =>
        obtain ⟨m, hm, rfl, rfl, hrow2, hext2⟩ := hrel
        by_cases hmt : m < 8
        · have hd2 : decide ((m : Int) < 8) = true := by simp; omega
          have hy := LM.div_lim x m hlk.1 hlk.2
          have HS := Lib.hid (LM.div_succ x m)
          have HW := Lib.hid (LM.wbs_succ x m)
          have hwb : LM.wb x m = x / 256 ^ m % 256 := rfl
          have HWB := Lib.hid hwb
          clear hwb
          have HL2 := Lib.hid (show (P ++ LM.wbs x m).length < 1000000000 from by rw [List.length_append, LM.wbs_len]; have := HL.out; omega)
          generalize x / 256 ^ m = y at *
          go_wp2_with ((at_builtin; refine Hid.out ?_))
          refine Lib.hid ?_
          refine wpList_push rfl _ _ 25 rfl 5 .u8 1 byte_info (by omega) Try.underlying25 w wr _ (P ++ LM.wbs x m) (y % 256) (by rfl) hrow2 hext2 (by rfl) HL2.out ?_
          intro v' w' hrow3 hext3
          go_wp2_with fail
          go_roundw
          case rel => exact ⟨m + 1, by omega, by go_num, by rw [HS.out], by rw [HW.out, HWB.out, ← List.append_assoc]; exact hrow3, hext3⟩
          case measure => simp [intOf]; omega
        · have hd2 : decide ((m : Int) < 8) = false := by simp; omega
          obtain rfl : m = 8 := by omega
          go_wp2_with fail
          go_roundw
          case rel => exact ⟨k + 1, by omega, by go_num, by rw [HB.out]; exact hrow2, hext2⟩
          case measure => simp [intOf]; omega
    · have hd : decide (k < zs.length) = false := by simp; omega
      have e : zs.take k = zs := List.take_of_length_le (by omega)
      rw [e] at hrow'
      go_wp2_with fail
      go_ret
      exact ⟨_, rfl, hrow', hext⟩
set_option maxRecDepth 100000 in
set_option maxHeartbeats 400000 in
theorem refWords_of (w : World) (A : Option Addr) (c : Nat) (zs : List Int) (hl : zs.length ≤ 10000000) (hlim : Lim zs 256) (hA : Ints w .u8 A zs) :
    Calls Try.prog 17 #[.slice A zs.length c] w (RowBack w 22 .u64 (LM.wordsOf zs)) := by
  go_enter Try.func17, Try.ntmps17
  go_wp2_with fail
  go_loopw [3, 4] (fun u i wr => ∃ k : Nat, k ≤ zs.length / 8 ∧ i = .int .i64 (8 * (k : Int)) ∧ Row wr w.heap.size 22 .u64 u (LM.wordsTo zs k) ∧ Ext w wr) (fun _ i _ => zs.length - (intOf i).toNat)
  case atStart => exact ⟨0, Nat.zero_le _, rfl, Row.nil _ _ _ _, Ext.refl _⟩
  case round =>
    obtain ⟨k, hk, rfl, hrow', hext⟩ := hrel
    by_cases hlt : k < zs.length / 8
    · have hd : decide (8 * (k : Int) + 8 ≤ (zs.length : Int)) = true := by simp; omega
      have hd' : 8 * (k : Int) + 8 ≤ (zs.length : Int) := by omega
      obtain ⟨ad, rfl, hb, hc⟩ := (hA.ext hext) (by omega)
      have HC := Lib.hid hc
      clear hc
      have hp8 : ((zs.drop (8 * k)).take 8).length = 8 := by rw [List.length_take, List.length_drop]; omega
      have HP8 := Lib.hid hp8
      clear hp8
      have HPl := Lib.hid (LM.lim_sub hlim (8 * k) 8)
      have HG : Hid (∀ j, j < 8 → zs.getD (8 * k + j) 0 = ((zs.drop (8 * k)).take 8).getD j 0) := Lib.hid (fun j hj => LM.getD8 rfl j hj)
      have HS := Lib.hid (LM.wordsTo_succ zs k)
      have HL := Lib.hid (show (LM.wordsTo zs k).length < 1000000000 from by rw [LM.wordsTo_len]; omega)
      generalize (zs.drop (8 * k)).take 8 = p at *
      go_wp2_with fail
      go_loop [5, 6] (fun y j => ∃ m : Nat, m ≤ 8 ∧ j = .int .i64 ((m : Int) - 1) ∧ y = .int .u64 (LM.wordOf (p.drop m))) (fun _ j => (intOf j + 1).toNat)
      case atStart => exact ⟨8, Nat.le_refl _, rfl, by rw [List.drop_eq_nil_of_le (by have := HP8.out; omega)]; rfl⟩
      case round =>
        obtain ⟨m, hm, rfl, rfl⟩ := hrel
        by_cases hm0 : 0 < m
        · obtain ⟨m, rfl⟩ : ∃ m', m = m' + 1 := ⟨m - 1, by omega⟩
          have e1 : ((m + 1 : Nat) : Int) - 1 = (m : Int) := by omega
          rw [e1]
          clear e1
          have hcell := HC.out (8 * k + m) (by omega)
          rw [HG.out m (by omega)] at hcell
          have hlx := HPl.out m (by have := HP8.out; omega)
          have hy := LM.wordOf_lim (p.drop (m + 1)) (fun z h => LM.of_lim HPl.out z (List.mem_of_mem_drop h))
          have hdl : (p.drop (m + 1)).length ≤ 7 := by rw [List.length_drop]; have := HP8.out; omega
          have hy1 := LM.pow7 hy.2 hdl
          have hy0 := hy.1
          have HDrop : Hid (LM.wordOf (p.drop m) = p.getD m 0 + 256 * LM.wordOf (p.drop (m + 1))) := Lib.hid (by
            rw [List.drop_eq_getElem_cons (by have := HP8.out; omega), LM.wordOf_cons]
            simp [List.getD_eq_getElem?_getD, show m < p.length from by have := HP8.out; omega])
          clear hy hdl
          generalize LM.wordOf (p.drop (m + 1)) = y at *
          generalize p.getD m 0 = x at *
          have hidx : (8 * (k : Int) + (m : Int)).toNat = 8 * k + m := by omega
          have hb1 : 8 * (k : Int) + (m : Int) < (zs.length : Int) := by omega
          have HSum : Hid (256 * y + x = x + 256 * y) := Lib.hid (by omega)
          go_wp2_with fail
          go_round
          case rel => exact ⟨m, by omega, rfl, by rw [HDrop.out, ← HSum.out]⟩
          case measure => simp [intOf]
        · obtain rfl : m = 0 := by omega
          rw [show ((0 : Nat) : Int) - 1 = -1 from rfl, List.drop_zero]
          have hlw := LM.wordOf_lim8 (l := p) (by have := HP8.out; omega) HPl.out
          generalize LM.wordOf p = y at *
          go_wp2_with ((at_builtin; refine Hid.out ?_))
          refine Lib.hid ?_
          refine wpList_push rfl _ _ 32 rfl 22 .u64 8 word_info (by omega) Try.underlying32 w wr _ (LM.wordsTo zs k) y (by rfl) hrow' hext (by rfl) HL.out ?_
          intro v' w' hrow3 hext3
          go_wp2_with fail
          go_roundw
          case rel => exact ⟨k + 1, by omega, by go_num, by rw [HS.out]; exact hrow3, hext3⟩
          case measure => simp [intOf]; omega
    · have hd : decide (8 * (k : Int) + 8 ≤ (zs.length : Int)) = false := by simp; omega
      have hd' : ¬ (8 * (k : Int) + 8 ≤ (zs.length : Int)) := by omega
      obtain rfl : k = zs.length / 8 := by omega
      rw [LM.wordsTo_all] at hrow'
      go_wp2_with fail
      go_ret
      exact ⟨_, rfl, hrow', hext⟩
/-- The string of bytes. -/
def strOf (zs : List Int) : ByteArray := ⟨(zs.map fun n => UInt8.ofNat n.toNat).toArray⟩
theorem conv_str (W : World) (A : Option Addr) (n c : Nat) (zs : List Int) (hn : zs.length = n) (hA : Ints W .u8 A zs) (hN : A = none → n = 0) :
    (convert 25 9 (.slice A n c)).run Try.prog W = .ok (.string (strOf zs)) W := by
  rw [run_convert_bytes_string W 25 9 5 A n c Try.underlying25 Try.underlying5 Try.underlying9]
  cases A with
  | none =>
    have h0 := hN rfl
    subst h0
    have : zs = [] := List.eq_nil_of_length_eq_zero hn
    subst this
    simp [Conv.bytesToString, strOf]
    rfl
  | some ad =>
    have hl := run_loadCells_list (P := Try.prog) W ad (zs.map (Value.int .u8)) (ints_cells hA)
    rw [List.length_map, hn] at hl
    rw [run_bytesToString W ad n c zs hl]
    have fp : ∀ (ns : List Int) (s : ByteArray), ns.foldl (fun r n => r.push (UInt8.ofNat n.toNat)) s = ⟨s.data ++ (ns.map fun n => UInt8.ofNat n.toNat).toArray⟩ := by
      intro ns
      induction ns with
      | nil => intro s; simp
      | cons n ns ih => intro s; rw [List.foldl_cons, ih]; simp [ByteArray.push]
    rw [fp]
    congr 2
    unfold strOf
    congr 1
    show (#[] : Array UInt8) ++ _ = _
    simp
end Go.Proofs.Ytimbfclnkagnaaa
