/- Layer 8: limekilnlaw08.apart. Conditions: those that each theorem names. -/
import Derived.Test.YtolengkegjipaaaMod33
namespace Go.Proofs.Ytolengkegjipaaa
open Go.ChangeShapes Go.WideShapes Go.ChangeAt Go.RowKit
set_option linter.unusedVariables false
def partL : List Int := [0, 1, 1, 2, 2, 2, 3, 3, 3]
def looksB (k : Int) : Bool := k == 5 || k == 7
def kindB (k : Int) : Bool := decide (1 ≤ k) && decide (k ≤ 8)
/-- Are two operations of unlike parts, or keys, or does either only look? -/
def apartB (ka a kb b : Int) : Bool :=
  if kindB ka = true ∧ kindB kb = true ∧ partL.getD ka.toNat 0 = partL.getD kb.toNat 0 then (decide (1 < partL.getD ka.toNat 0) && (a != b)) || (looksB ka && looksB kb) else true
set_option maxRecDepth 100000 in
set_option maxHeartbeats 4000000 in
theorem apart_out (w : World) (ka a b kb a' b' : Int) (h : ¬ (kindB ka = true ∧ kindB kb = true)) :
    Calls Try.prog 15 #[.agg #[.int .i64 ka, .int .u32 a, .int .u32 b], .agg #[.int .i64 kb, .int .u32 a', .int .u32 b']] w fun e w' => e = .returned (.bool true) ∧ Ext w w' := by
  have hk : ∀ k : Int, ¬ kindB k = true → k < 1 ∨ (1 ≤ k ∧ 8 < k) := fun k hk => by
    unfold kindB at hk
    simp at hk
    omega
  have x3 := ((Ext.refl w).alloc (.cells #[.int .i64 ka, .int .u32 a, .int .u32 b] 38)).alloc (.cells #[.int .i64 kb, .int .u32 a', .int .u32 b'] 38)
  by_cases h1 : kindB ka = true
  · have h1' : 1 ≤ ka ∧ ka ≤ 8 := by unfold kindB at h1; simpa using h1
    have d1 : decide (ka < 1) = false := by simp; omega
    have d2 : decide (8 < ka) = false := by simp; omega
    rcases hk kb (fun e => h ⟨h1, e⟩) with h2 | ⟨h2, h3⟩
    · have d3 : decide (kb < 1) = true := by simp; omega
      have X3 := Lib.hid x3
      clear h hk h1 h1' x3
      go_enter Try.func15, Try.ntmps15
      go_wp2_with fail
      go_quiet (fail)
      go_wp2_with fail
      go_ret
      exact ⟨rfl, (X3.out.alloc _).trans (by first | exact extN _ _ | exact (Ext.refl _).drew)⟩
    · have d3 : decide (kb < 1) = false := by simp; omega
      have d4 : decide (8 < kb) = true := by simp; omega
      have X3 := Lib.hid x3
      clear h hk h1 h1' x3
      go_enter Try.func15, Try.ntmps15
      go_wp2_with fail
      go_quiet (fail)
      go_wp2_with fail
      go_ret
      exact ⟨rfl, (X3.out.alloc _).trans (by first | exact extN _ _ | exact (Ext.refl _).drew)⟩
  · rcases hk ka h1 with h2 | ⟨h2, h3⟩
    · have d1 : decide (ka < 1) = true := by simp; omega
      have X3 := Lib.hid x3
      clear h hk h1 x3
      go_enter Try.func15, Try.ntmps15
      go_wp2_with fail
      go_quiet (fail)
      go_wp2_with fail
      go_ret
      exact ⟨rfl, (X3.out.alloc _).trans (by first | exact extN _ _ | exact (Ext.refl _).drew)⟩
    · have d1 : decide (ka < 1) = false := by simp; omega
      have d2 : decide (8 < ka) = true := by simp; omega
      have X3 := Lib.hid x3
      clear h hk h1 x3
      go_enter Try.func15, Try.ntmps15
      go_wp2_with fail
      go_quiet (fail)
      go_wp2_with fail
      go_ret
      exact ⟨rfl, (X3.out.alloc _).trans (by first | exact extN _ _ | exact (Ext.refl _).drew)⟩
set_option maxRecDepth 100000 in
set_option maxHeartbeats 4000000 in
theorem apart_in (w : World) (na nb : Nat) (a b a' b' : Int) (ha : 1 ≤ na ∧ na ≤ 8) (hb : 1 ≤ nb ∧ nb ≤ 8) :
    Calls Try.prog 15 #[.agg #[.int .i64 (na : Int), .int .u32 a, .int .u32 b], .agg #[.int .i64 (nb : Int), .int .u32 a', .int .u32 b']] w fun e w' => e = .returned (.bool (if partL.getD na 0 = partL.getD nb 0 then (decide (1 < partL.getD na 0) && (a != a')) || (looksB na && looksB nb) else true)) ∧ Ext w w' := by
  have d1 : decide ((na : Int) < 1) = false := by simp; omega
  have d2 : decide (8 < (na : Int)) = false := by simp; omega
  have d3 : decide ((nb : Int) < 1) = false := by simp; omega
  have d4 : decide (8 < (nb : Int)) = false := by simp; omega
  have i1 : na < 9 := by omega
  have i2 : nb < 9 := by omega
  have l0 := ((Blk.new w 38 [.int .i64 (na : Int), .int .u32 a, .int .u32 b]).ext ((Ext.refl _).alloc (.cells #[.int .i64 (nb : Int), .int .u32 a', .int .u32 b'] 38))).ext ((Ext.refl _).alloc (.cells #[.int .i64 0, .int .i64 1, .int .i64 1, .int .i64 2, .int .i64 2, .int .i64 2, .int .i64 3, .int .i64 3, .int .i64 3] 3))
  have l1 := (Blk.new (w.alloc (.cells #[.int .i64 (na : Int), .int .u32 a, .int .u32 b] 38)) 38 [.int .i64 (nb : Int), .int .u32 a', .int .u32 b']).ext ((Ext.refl _).alloc (.cells #[.int .i64 0, .int .i64 1, .int .i64 1, .int .i64 2, .int .i64 2, .int .i64 2, .int .i64 3, .int .i64 3, .int .i64 3] 3))
  have l2 := Blk.new ((w.alloc (.cells #[.int .i64 (na : Int), .int .u32 a, .int .u32 b] 38)).alloc (.cells #[.int .i64 (nb : Int), .int .u32 a', .int .u32 b'] 38)) 3 [.int .i64 0, .int .i64 1, .int .i64 1, .int .i64 2, .int .i64 2, .int .i64 2, .int .i64 3, .int .i64 3, .int .i64 3]
  simp only [World.size_alloc] at l1 l2
  have hcell : ∀ n : Nat, n < 9 → [Value.int .i64 0, .int .i64 1, .int .i64 1, .int .i64 2, .int .i64 2, .int .i64 2, .int .i64 3, .int .i64 3, .int .i64 3][n]? = some (.int .i64 (partL.getD n 0)) := fun n hn => by
    match n, hn with
    | 0, _ => rfl
    | 1, _ => rfl
    | 2, _ => rfl
    | 3, _ => rfl
    | 4, _ => rfl
    | 5, _ => rfl
    | 6, _ => rfl
    | 7, _ => rfl
    | 8, _ => rfl
  have X3 := Lib.hid ((((Ext.refl w).alloc (.cells #[.int .i64 (na : Int), .int .u32 a, .int .u32 b] 38)).alloc (.cells #[.int .i64 (nb : Int), .int .u32 a', .int .u32 b'] 38)).alloc (.cells #[.int .i64 0, .int .i64 1, .int .i64 1, .int .i64 2, .int .i64 2, .int .i64 2, .int .i64 3, .int .i64 3, .int .i64 3] 3))
  have p1 := (l2.cell na).trans (hcell na i1)
  have p2 := (l2.cell nb).trans (hcell nb i2)
  obtain ⟨pa, hpa⟩ : ∃ p, partL.getD na 0 = p := ⟨_, rfl⟩
  obtain ⟨pb, hpb⟩ : ∃ p, partL.getD nb 0 = p := ⟨_, rfl⟩
  rw [hpa] at p1
  rw [hpb] at p2
  rw [hpa, hpb]
  have HLa : Hid (∀ W, Calls Try.prog 14 #[.int .i64 (na : Int)] W fun e w' => e = .returned (.bool (looksB na)) ∧ W = w') := Lib.hid (fun W => looks_ok na W)
  have HLb : Hid (∀ W, Calls Try.prog 14 #[.int .i64 (nb : Int)] W fun e w' => e = .returned (.bool (looksB nb)) ∧ W = w') := Lib.hid (fun W => looks_ok nb W)
  generalize looksB na = la at *
  generalize looksB nb = lb at *
  obtain ⟨r, hr⟩ : ∃ r, (if pa = pb then (decide (1 < pa) && (a != a')) || (la && lb) else true) = r := ⟨_, rfl⟩
  rw [hr]
  have HR := Lib.hid hr
  clear hr
  have L0 := Lib.hid l0
  have L1 := Lib.hid l1
  clear hcell l2 hpa hpb l0 l1 ha hb
  go_enter Try.func15, Try.ntmps15
  go_upto_region 2 with fail
  generalize ((w.alloc (.cells #[.int .i64 (na : Int), .int .u32 a, .int .u32 b] 38)).alloc (.cells #[.int .i64 (nb : Int), .int .u32 a', .int .u32 b'] 38)).alloc (.cells #[.int .i64 0, .int .i64 1, .int .i64 1, .int .i64 2, .int .i64 2, .int .i64 2, .int .i64 3, .int .i64 3, .int .i64 3] 3) = W0 at *
  have c0 : W0.cell? ⟨w.heap.size, 0, none⟩ = some (.int .i64 (na : Int)) := L0.out.cell 0
  have c1 : W0.cell? ⟨w.heap.size, 1, none⟩ = some (.int .u32 a) := L0.out.cell 1
  have c2 : W0.cell? ⟨w.heap.size + 1, 0, none⟩ = some (.int .i64 (nb : Int)) := L1.out.cell 0
  have c3 : W0.cell? ⟨w.heap.size + 1, 1, none⟩ = some (.int .u32 a') := L1.out.cell 1
  by_cases hp : pa = pb
  · subst hp
    have t1 : (pa != pa) = false := by simp
    go_quiet (fail)
    by_cases h1 : 1 < pa
    · have d5 : decide (1 < pa) = true := by simpa using h1
      by_cases h2 : a = a'
      · subst h2
        have d6 : (a != a) = false := by simp
        cases la
        · have H2 : Hid (r = false) := Lib.hid (by rw [← HR.out]; simp)
          go_wp2_with (go_at_call 14; refine (HLa.out _).mono ?_; rintro e w9 ⟨rfl, rfl⟩)
          go_ret
          exact ⟨by rw [H2.out] <;> rfl, X3.out.trans (by first | exact extN _ _ | exact (Ext.refl _).drew)⟩
        · have H2 : Hid (r = lb) := Lib.hid (by rw [← HR.out]; simp)
          go_wp2_with (first | (go_at_call_of 14 (Value.int IntKind.i64 (na : Int)); refine (HLa.out _).mono ?_; rintro e w9 ⟨rfl, rfl⟩) | (go_at_call_of 14 (Value.int IntKind.i64 (nb : Int)); refine (HLb.out _).mono ?_; rintro e w9 ⟨rfl, rfl⟩))
          go_ret
          exact ⟨by rw [H2.out] <;> rfl, X3.out.trans (by first | exact extN _ _ | exact (Ext.refl _).drew)⟩
      · have d6 : (a != a') = true := by simpa using h2
        have H2 : Hid (r = true) := Lib.hid (by rw [← HR.out]; simp [h1, h2])
        go_wp2_with fail
        go_ret
        exact ⟨by rw [H2.out] <;> rfl, X3.out.trans (by first | exact extN _ _ | exact (Ext.refl _).drew)⟩
    · have d5 : decide (1 < pa) = false := by simpa using h1
      cases la
      · have H2 : Hid (r = false) := Lib.hid (by rw [← HR.out]; simp [d5])
        go_wp2_with (go_at_call 14; refine (HLa.out _).mono ?_; rintro e w9 ⟨rfl, rfl⟩)
        go_ret
        exact ⟨by rw [H2.out] <;> rfl, X3.out.trans (by first | exact extN _ _ | exact (Ext.refl _).drew)⟩
      · have H2 : Hid (r = lb) := Lib.hid (by rw [← HR.out]; simp [d5])
        go_wp2_with (first | (go_at_call_of 14 (Value.int IntKind.i64 (na : Int)); refine (HLa.out _).mono ?_; rintro e w9 ⟨rfl, rfl⟩) | (go_at_call_of 14 (Value.int IntKind.i64 (nb : Int)); refine (HLb.out _).mono ?_; rintro e w9 ⟨rfl, rfl⟩))
        go_ret
        exact ⟨by rw [H2.out] <;> rfl, X3.out.trans (by first | exact extN _ _ | exact (Ext.refl _).drew)⟩
  · have t1 : (pa != pb) = true := by simpa using hp
    go_quiet (fail)
    have H2 : Hid (r = true) := Lib.hid (by rw [← HR.out, if_neg hp])
    go_wp2_with fail
    go_ret
    exact ⟨by rw [H2.out] <;> rfl, X3.out.trans (by first | exact extN _ _ | exact (Ext.refl _).drew)⟩
theorem apart_ok (w : World) (ka a b kb a' b' : Int) :
    Calls Try.prog 15 #[.agg #[.int .i64 ka, .int .u32 a, .int .u32 b], .agg #[.int .i64 kb, .int .u32 a', .int .u32 b']] w fun e w' => e = .returned (.bool (apartB ka a kb a')) ∧ Ext w w' := by
  by_cases h : kindB ka = true ∧ kindB kb = true
  · obtain ⟨h1, h2⟩ := h
    have h1' : 1 ≤ ka ∧ ka ≤ 8 := by unfold kindB at h1; simpa using h1
    have h2' : 1 ≤ kb ∧ kb ≤ 8 := by unfold kindB at h2; simpa using h2
    obtain ⟨na, rfl⟩ : ∃ n : Nat, ka = n := ⟨ka.toNat, by omega⟩
    obtain ⟨nb, rfl⟩ : ∃ n : Nat, kb = n := ⟨kb.toNat, by omega⟩
    have e : apartB na a nb a' = (if partL.getD na 0 = partL.getD nb 0 then (decide (1 < partL.getD na 0) && (a != a')) || (looksB na && looksB nb) else true) := by
      unfold apartB
      simp only [Int.toNat_natCast, h1, h2, true_and]
    rw [e]
    exact apart_in w na nb a b a' b' (by omega) (by omega)
  · have e : apartB ka a kb a' = true := by
      unfold apartB
      rw [if_neg (fun hh => h ⟨hh.1, hh.2.1⟩)]
    rw [e]
    exact apart_out w ka a b kb a' b' h
end Go.Proofs.Ytolengkegjipaaa
