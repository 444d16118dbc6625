/- Rows of names that the call made itself, and a name laid behind them; all lasting words of a config by their names. Conditions: those that each theorem names. -/
import Derived.Test.YtolengkegjipaaaGreatKLayA
import Derived.Test.YtolengkegjipaaaGreatLay9
namespace Go.Proofs.YtolengkegjipaaaGreat
open Go.ChangeShapes Go.WideShapes Go.ChangeAt Go.RowKit
set_option linter.unusedVariables false
namespace NM
abbrev Nm := Int × Int × Int
def flat (L : List Nm) : List Int := L.flatMap fun x => [x.1, x.2.1, x.2.2]
theorem flat_append (L M : List Nm) : flat (L ++ M) = flat L ++ flat M := by simp [flat]
/-- Words without a name up to the end of a line. -/
def pad (n : Nat) : List Nm := List.replicate ((8 - n % 8) % 8) (0, 0, 0)
theorem pad_len (n : Nat) : (pad n).length = (8 - n % 8) % 8 := by simp [pad]
def supers (n : Nat) : List Nm := (List.range n).map fun i => (1, ((i / 8 : Nat) : Int), ((i % 8 : Nat) : Int))
def one (k : Int) : List Nm := [(k, 0, 0)] ++ pad 1
def bucks (n : Nat) : List Nm := (List.range n).map fun (i : Nat) => (5, (i : Int), 0)
def thread (t : Nat) : List Nm := [(6, (t : Int), 0), (7, (t : Int), 0)] ++ pad 2
def threads (n : Nat) : List Nm := (List.range n).flatMap thread
def ents (t n : Nat) : List Nm := (List.range n).map fun (i : Nat) => (8, (t : Int), (i : Int))
def log (l t : Nat) : List Nm := ents t l ++ pad l
def logs (l n : Nat) : List Nm := (List.range n).flatMap (log l)
def kinds (s n : Nat) : List Nm := (List.range n).map fun i => (((9 + i : Nat) : Int), (s : Int), 0)
def slot (s : Nat) : List Nm := kinds s 5 ++ pad 5
def slots (n : Nat) : List Nm := (List.range n).flatMap slot
def upto4 : List Nm := supers 16 ++ one 2 ++ one 3 ++ one 4
/-- All lasting words, in order. -/
def last (t s l b : Nat) : List Nm := upto4 ++ (bucks b ++ pad b) ++ threads t ++ logs l t ++ slots s
theorem supers_succ (n : Nat) : supers (n + 1) = supers n ++ [(1, ((n / 8 : Nat) : Int), ((n % 8 : Nat) : Int))] := by simp [supers, List.range_succ]
theorem bucks_succ (n : Nat) : bucks (n + 1) = bucks n ++ [(5, (n : Int), 0)] := by simp [bucks, List.range_succ]
theorem ents_succ (t n : Nat) : ents t (n + 1) = ents t n ++ [(8, (t : Int), (n : Int))] := by simp [ents, List.range_succ]
theorem kinds_succ (s n : Nat) : kinds s (n + 1) = kinds s n ++ [(((9 + n : Nat) : Int), (s : Int), 0)] := by simp [kinds, List.range_succ]
theorem threads_succ (n : Nat) : threads (n + 1) = threads n ++ thread n := by simp [threads, List.range_succ, List.flatMap_append]
theorem logs_succ (l n : Nat) : logs l (n + 1) = logs l n ++ log l n := by simp [logs, List.range_succ, List.flatMap_append]
theorem slots_succ (n : Nat) : slots (n + 1) = slots n ++ slot n := by simp [slots, List.range_succ, List.flatMap_append]
theorem supers_len (n : Nat) : (supers n).length = n := by simp [supers]
theorem bucks_len (n : Nat) : (bucks n).length = n := by simp [bucks]
theorem ents_len (t n : Nat) : (ents t n).length = n := by simp [ents]
theorem kinds_len (t n : Nat) : (kinds t n).length = n := by simp [kinds]
theorem upto4_len : upto4.length = 40 := rfl
theorem thread_len (t : Nat) : (thread t).length = 8 := rfl
theorem slot_len (t : Nat) : (slot t).length = 8 := by simp [slot, kinds_len, pad_len]
theorem log_len (l t : Nat) : (log l t).length = 8 * ((l + 7) / 8) := by simp [log, ents_len, pad_len]; omega
theorem threads_len (n : Nat) : (threads n).length = 8 * n := by
  induction n with
  | zero => rfl
  | succ n ih => rw [threads_succ, List.length_append, ih, thread_len]; omega
theorem logs_len (l n : Nat) : (logs l n).length = 8 * ((l + 7) / 8) * n := by
  induction n with
  | zero => rfl
  | succ n ih => rw [logs_succ, List.length_append, ih, log_len, Nat.mul_succ]
theorem slots_len (n : Nat) : (slots n).length = 8 * n := by
  induction n with
  | zero => rfl
  | succ n ih => rw [slots_succ, List.length_append, ih, slot_len]; omega
theorem bpad_len (b : Nat) : (bucks b ++ pad b).length = 8 * ((b + 7) / 8) := by simp [bucks_len, pad_len]; omega
theorem last_len (t s l b : Nat) : (last t s l b).length = 8 * (5 + (b + 7) / 8 + t + (l + 7) / 8 * t + s) := by
  unfold last
  rw [List.length_append, List.length_append, List.length_append, List.length_append, upto4_len, bpad_len, threads_len, logs_len, slots_len, Nat.mul_assoc]
  omega
theorem pad_mod {n m : Nat} (h : n % 8 = 0) : pad (n + m) = pad m := by
  unfold pad
  rw [show (n + m) % 8 = m % 8 by omega]
end NM
/-- A row of names of the call's own. -/
def Names (w : World) (B : Nat) (v : Value) (L : List NM.Nm) : Prop := RowN w B 57 3 .i64 v L.length (NM.flat L)
theorem Names.nil (w : World) (B : Nat) : Names w B (.slice none 0 0) [] := RowN.nil w B _ 3 _
theorem Names.ext {w w' : World} {B : Nat} {v : Value} {L : List NM.Nm} (h : Names w B v L) (x : Ext w w') : Names w' B v L := RowN.ext h x
theorem Names.mono {w : World} {B B' : Nat} {v : Value} {L : List NM.Nm} (h : Names w B v L) (hB : B' ≤ B) : Names w B' v L := RowN.mono h hB
theorem Names.form {w : World} {B : Nat} {v : Value} {L : List NM.Nm} (h : Names w B v L) : ∃ A c, v = .slice A L.length c ∧ Ints w .i64 A (NM.flat L) := by
  obtain ⟨A, c, hv, _, _, hI, _⟩ := RowN.form h (by decide)
  exact ⟨A, c, hv, hI⟩
theorem name_info : (Tryz.prog.info? 57).map (fun i => (i.zero, i.size, i.bytes)) = some (some (.agg #[.int .i64 0, .int .i64 0, .int .i64 0]), 3, 24) := by kernel_rfl
/-- append(l, a name). -/
theorem wpList_pushName {ops : Array Oper} {rest : List Oper} {o : Oper} {a : Act} {Q : Exit → Act → World → Prop} (hgd : o.guard = none) (s x : Operand)
    (ho : o.op = .call { callee := .builtin .append, args := #[s, x], argTypes := #[66, 66] })
    (w0 W : World) (v : Value) (L : List NM.Nm) (k y z : Int) (hs : a.eval s = v) (hrow : Names W w0.heap.size v L) (ext : Ext w0 W)
    (hx : a.eval x = .slice (some ⟨W.heap.size, 0, none⟩) 1 1) (hlen : L.length < 100000000)
    (h : ∀ v' w', Names w' w0.heap.size v' (L ++ [(k, y, z)]) → Ext w0 w' → wpList Tryz.prog ops Q rest (a.put o.dst v') w') :
    wpList Tryz.prog ops Q (o :: rest) a (W.alloc (.cells #[.int .i64 k, .int .i64 y, .int .i64 z] 57)) := by
  refine wpList_appN hgd s x _ ho 57 .i64 3 24 _ name_info rfl (by decide) (by decide) Tryz.underlying66 w0 _ v L.length (NM.flat L) hs (RowN.ext hrow ((Ext.refl W).alloc _)) (ext.alloc _) ⟨W.heap.size, 0, none⟩ 1 1 [k, y, z] hx rfl ?_ (by omega) ?_
  · intro j hj
    have hj' : j < 3 := hj
    rw [at0, cell_of_row _ _ _ _ _ _ (heap_alloc_new W _)]
    match j, hj' with
    | 0, _ => rfl
    | 1, _ => rfl
    | 2, _ => rfl
  · intro v' w' hr hx' _ _
    refine h v' w' ?_ hx'
    unfold Names
    rw [NM.flat_append, List.length_append]
    exact hr
set_option maxHeartbeats 400000 in
theorem fill_any (w0 w : World) (v : Value) (L : List NM.Nm) (hrow : Names w w0.heap.size v L) (hx : Ext w0 w) (hl : L.length < 1000000) :
    Calls Tryz.prog 44 #[v] w fun e w' => ∃ v', e = .returned v' ∧ Names w' w0.heap.size v' (L ++ NM.pad L.length) ∧ Ext w0 w' := by
  go_enter Tryz.func44, Tryz.ntmps44
  go_wp2
  go_loopw [0] (fun u wr => ∃ k : Nat, k ≤ (8 - L.length % 8) % 8 ∧ Names wr w0.heap.size u (L ++ List.replicate k (0, 0, 0)) ∧ Ext w0 wr) (fun u _ => match u with | .slice _ n _ => L.length + 8 - n | _ => 0)
  case atStart => exact ⟨0, Nat.zero_le _, by simpa using hrow, hx⟩
  case round =>
    obtain ⟨k, hk, hr, hxr⟩ := hrel
    obtain ⟨A, c, rfl, hI⟩ := hr.form
    have hn : (L ++ List.replicate k ((0, 0, 0) : NM.Nm)).length = L.length + k := by simp
    have HN := Lib.hid hn
    rw [hn] at hr ⊢
    clear hn
    by_cases hlt : k < (8 - L.length % 8) % 8
    · have t1 : (((L.length + k : Nat) : Int) % 8 != 0) = true := by rw [bne_iff_ne]; omega
      have t2 : ((((L.length : Nat) : Int) + (k : Int)) % 8 != 0) = true := by rw [bne_iff_ne]; omega
      have t3 : ¬ (L.length + k) % 8 = 0 := by omega
      have t4 : ((L.length + k) % 8 != 0) = true := by rw [bne_iff_ne]; omega
      go_wp2_with ((at_builtin; refine Hid.out ?_))
      refine Lib.hid ?_
      refine wpList_pushName rfl _ _ rfl w0 wr _ (L ++ List.replicate k (0, 0, 0)) 0 0 0 (by rfl) hr hxr (by rfl) (by rw [HN.out]; omega) ?_
      intro v' w' hrow' hext'
      rw [List.append_assoc, ← List.replicate_succ'] at hrow'
      obtain ⟨A', c', hv', _⟩ := hrow'.form
      have hn' : (L ++ List.replicate (k + 1) ((0, 0, 0) : NM.Nm)).length = L.length + (k + 1) := by simp
      rw [hn'] at hv'
      subst hv'
      clear hr t1 t2 t3 t4 hn'
      go_wp2_with fail
      go_roundw
      case rel => exact ⟨k + 1, by omega, hrow', hext'⟩
      case measure => simp; omega
    · have ek : k = (8 - L.length % 8) % 8 := by omega
      have t1 : (((L.length + k : Nat) : Int) % 8 != 0) = false := by rw [bne_eq_false_iff_eq]; omega
      have t2 : ((((L.length : Nat) : Int) + (k : Int)) % 8 != 0) = false := by rw [bne_eq_false_iff_eq]; omega
      have t3 : (L.length + k) % 8 = 0 := by omega
      have t4 : ((L.length + k) % 8 != 0) = false := by rw [bne_eq_false_iff_eq]; omega
      have HR := Lib.hid (show Names wr w0.heap.size (.slice A (L.length + k) c) (L ++ NM.pad L.length) by unfold NM.pad; rw [← ek]; exact hr)
      clear hr ek
      go_wp2_with fail
      go_ret
      exact ⟨_, rfl, HR.out, hxr⟩
end Go.Proofs.YtolengkegjipaaaGreat


/- All lasting words of a config by their names, as the document's answer lays them. Conditions: those that each theorem names. -/
namespace Go.Proofs.YtolengkegjipaaaGreat
open Go.ChangeShapes Go.WideShapes Go.ChangeAt Go.RowKit
set_option linter.unusedVariables false
set_option maxRecDepth 100000 in
set_option maxHeartbeats 4000000 in
theorem lasting_any (t s l b : Nat) (w : World) (ht : t ≤ 64) (hs : s ≤ 65536) (hl : l ≤ 64) (hb : b ≤ 64) :
    Calls Tryz.prog 24 #[.agg #[.int .i64 t, .int .i64 s, .int .i64 l, .int .i64 b]] w fun e w' => ∃ v, e = .returned v ∧ Names w' w.heap.size v (NM.last t s l b) ∧ Ext w w' := by
  go_enter Tryz.func24, Tryz.ntmps24
  go_wp2_with fail
  obtain ⟨w1, HW1⟩ : ∃ w1, Hid (w.alloc (.cells #[.int .i64 t, .int .i64 s, .int .i64 l, .int .i64 b] 23) = w1) := ⟨_, Lib.hid rfl⟩
  rw [HW1.out]
  have HC := Lib.hid (show C4 w1 w.heap.size t s l b by rw [← HW1.out]; exact C4.new w _ _ _ _ _)
  have hlt : w.heap.size < w1.heap.size := by rw [← HW1.out]; simp
  have hx1 : Ext w w1 := by rw [← HW1.out]; exact (Ext.refl w).alloc _
  clear HW1
  go_loopw [3, 4] (fun v i wr => ∃ k : Nat, k ≤ 16 ∧ i = .int .i64 k ∧ Names wr w1.heap.size v (NM.supers k) ∧ Ext w1 wr) (fun _ i _ => 16 - (intOf i).toNat)
  case atStart => exact ⟨0, Nat.zero_le _, rfl, Names.nil _ _, Ext.refl _⟩
  case round =>
    obtain ⟨k, hk, rfl, hrow, hext⟩ := hrel
    by_cases hk2 : k < 16
    · have HS := Lib.hid (NM.supers_succ k)
      go_wp2_with ((at_builtin; refine Hid.out ?_))
      refine Lib.hid ?_
      refine wpList_pushName rfl _ _ rfl w1 _ _ (NM.supers k) 1 ((k : Int) / 8) ((k : Int) % 8) (by rfl) hrow hext (by rfl) (by rw [NM.supers_len]; omega) ?_
      clear hrow hext
      intro vN wN hrow hext
      generalize vN = vM at *
      generalize wN = wM at *
      go_wp2_with fail
      go_roundw
      case rel => exact ⟨k + 1, by omega, by go_num, by rw [HS.out]; exact hrow, hext⟩
      case measure => simp [intOf]; omega
    · obtain rfl : k = 16 := by omega
      clear hk hk2
      generalize wr = wM at *
      go_wp2_with ((at_builtin; refine Hid.out ?_))
      refine Lib.hid ?_
      refine wpList_pushName rfl _ _ rfl w1 _ _ (NM.supers 16) 2 0 0 (by rfl) hrow hext (by rfl) (by decide) ?_
      clear hrow hext
      intro vN wN hrow hext
      generalize vN = vM at *
      generalize wN = wM at *
      go_wp2_with fail
      refine (fill_any w1 _ _ _ hrow hext (by decide)).mono ?_
      clear hrow hext
      rintro e wN ⟨vN, rfl, hrow, hext⟩
      generalize vN = vM at *
      generalize wN = wM at *
      replace hrow : Names wM w1.heap.size vM (NM.supers 16 ++ NM.one 2) := hrow
      go_wp2_with ((at_builtin; refine Hid.out ?_))
      refine Lib.hid ?_
      refine wpList_pushName rfl _ _ rfl w1 _ _ (NM.supers 16 ++ NM.one 2) 3 0 0 (by rfl) hrow hext (by rfl) (by decide) ?_
      clear hrow hext
      intro vN wN hrow hext
      generalize vN = vM at *
      generalize wN = wM at *
      go_wp2_with fail
      refine (fill_any w1 _ _ _ hrow hext (by decide)).mono ?_
      clear hrow hext
      rintro e wN ⟨vN, rfl, hrow, hext⟩
      generalize vN = vM at *
      generalize wN = wM at *
      replace hrow : Names wM w1.heap.size vM (NM.supers 16 ++ NM.one 2 ++ NM.one 3) := hrow
      go_wp2_with ((at_builtin; refine Hid.out ?_))
      refine Lib.hid ?_
      refine wpList_pushName rfl _ _ rfl w1 _ _ (NM.supers 16 ++ NM.one 2 ++ NM.one 3) 4 0 0 (by rfl) hrow hext (by rfl) (by decide) ?_
      clear hrow hext
      intro vN wN hrow hext
      generalize vN = vM at *
      generalize wN = wM at *
      go_wp2_with fail
      refine (fill_any w1 _ _ _ hrow hext (by decide)).mono ?_
      clear hrow hext
      rintro e wN ⟨vN, rfl, hrow, hext⟩
      generalize vN = vM at *
      generalize wN = wM at *
      replace hrow : Names wM w1.heap.size vM (NM.supers 16 ++ NM.one 2 ++ NM.one 3 ++ NM.one 4) := hrow
      obtain ⟨U, HU, hUl⟩ : ∃ U, Hid (NM.upto4 = U) ∧ U.length = 40 := ⟨_, Lib.hid rfl, rfl⟩
      have HUl := Lib.hid hUl
      clear hUl
      replace hrow : Names wM w1.heap.size vM U := by rw [← HU.out]; exact hrow
      go_wp2_with fail
      go_loopw [3, 5] (fun v i wr => ∃ k : Nat, k ≤ b ∧ i = .int .i64 k ∧ Names wr w1.heap.size v (U ++ NM.bucks k) ∧ Ext w1 wr) (fun _ i _ => b - (intOf i).toNat)
      case atStart => exact ⟨0, Nat.zero_le _, rfl, by simpa [NM.bucks] using hrow, hext⟩
      case round =>
        clear hrow hext
        obtain ⟨k, hk, rfl, hrow, hext⟩ := hrel
        obtain ⟨c0, c1, c2, c3⟩ := HC.out.ext hext hlt
        by_cases hk2 : k < b
        · have HS := Lib.hid (NM.bucks_succ k)
          go_wp2_with ((at_builtin; refine Hid.out ?_))
          refine Lib.hid ?_
          refine wpList_pushName rfl _ _ rfl w1 _ _ (U ++ NM.bucks k) 5 (k : Int) 0 (by rfl) hrow hext (by rfl) (by rw [List.length_append, NM.bucks_len, HUl.out]; omega) ?_
          clear hrow hext
          intro vN wN hrow hext
          generalize vN = vM at *
          generalize wN = wM at *
          clear c0 c1 c2 c3
          go_wp2_with fail
          go_roundw
          case rel => exact ⟨k + 1, by omega, by go_num, by rw [HS.out, ← List.append_assoc]; exact hrow, hext⟩
          case measure => simp [intOf]; omega
        · obtain rfl : k = b := by omega
          clear hk hk2
          generalize wr = wM at *
          go_wp2_with fail
          refine (fill_any w1 _ _ _ hrow hext (by rw [List.length_append, NM.bucks_len, HUl.out]; omega)).mono ?_
          clear hrow hext
          rintro e wN ⟨vN, rfl, hrow, hext⟩
          generalize vN = vM at *
          generalize wN = wM at *
          clear c0 c1 c2 c3
          obtain ⟨V, HV⟩ : ∃ V, Hid (U ++ (NM.bucks k ++ NM.pad k) = V) := ⟨_, Lib.hid rfl⟩
          have hrow2 : Names wM w1.heap.size vM V := by
            rw [← HV.out, ← List.append_assoc]
            have e := hrow
            rw [List.length_append, NM.bucks_len, HUl.out, NM.pad_mod (by decide)] at e
            exact e
          have HVl := Lib.hid (show V.length = 40 + 8 * ((k + 7) / 8) by rw [← HV.out, List.length_append, NM.bpad_len, HUl.out])
          replace hrow := hrow2
          clear hrow2
          go_wp2_with fail
          go_loopw [3, 6] (fun v i wr => ∃ q : Nat, q ≤ t ∧ i = .int .i64 q ∧ Names wr w1.heap.size v (V ++ NM.threads q) ∧ Ext w1 wr) (fun _ i _ => t - (intOf i).toNat)
          case atStart => exact ⟨0, Nat.zero_le _, rfl, by simpa [NM.threads] using hrow, hext⟩
          case round =>
            clear hrow hext
            obtain ⟨q, hq, rfl, hrow, hext⟩ := hrel
            obtain ⟨c0, c1, c2, c3⟩ := HC.out.ext hext hlt
            by_cases hq2 : q < t
            · have HS := Lib.hid (NM.threads_succ q)
              go_wp2_with ((at_builtin; refine Hid.out ?_))
              refine Lib.hid ?_
              refine wpList_pushName rfl _ _ rfl w1 _ _ (V ++ NM.threads q) 6 (q : Int) 0 (by rfl) hrow hext (by rfl) (by rw [List.length_append, NM.threads_len, HVl.out]; omega) ?_
              clear hrow hext
              intro vN wN hrow hext
              generalize vN = vM at *
              generalize wN = wM at *
              clear c0 c1 c2 c3
              go_wp2_with ((at_builtin; refine Hid.out ?_))
              refine Lib.hid ?_
              refine wpList_pushName rfl _ _ rfl w1 _ _ (V ++ NM.threads q ++ [(6, (q : Int), 0)]) 7 (q : Int) 0 (by rfl) hrow hext (by rfl) (by rw [List.length_append, List.length_append, NM.threads_len, HVl.out]; simp; omega) ?_
              clear hrow hext
              intro vN wN hrow hext
              generalize vN = vM at *
              generalize wN = wM at *
              go_wp2_with fail
              refine (fill_any w1 _ _ _ hrow hext (by rw [List.length_append, List.length_append, List.length_append, NM.threads_len, HVl.out]; simp; omega)).mono ?_
              clear hrow hext
              rintro e wN ⟨vN, rfl, hrow, hext⟩
              generalize vN = vM at *
              generalize wN = wM at *
              have hrow2 : Names wM w1.heap.size vM (V ++ NM.threads (q + 1)) := by
                have e := hrow
                rw [show (V ++ NM.threads q ++ [((6, (q : Int), 0) : NM.Nm)] ++ [((7, (q : Int), 0) : NM.Nm)]).length = (V.length + (NM.threads q).length) + 2 by simp <;> omega, NM.pad_mod (by rw [NM.threads_len, HVl.out]; omega)] at e
                rw [HS.out]
                unfold NM.thread
                simpa using e
              clear hrow
              go_wp2_with fail
              go_roundw
              case rel => exact ⟨q + 1, by omega, by go_num, hrow2, hext⟩
              case measure => simp [intOf]; omega
            · obtain rfl : q = t := by omega
              clear hq hq2
              generalize wr = wM at *
              obtain ⟨X, HX⟩ : ∃ X, Hid (V ++ NM.threads q = X) := ⟨_, Lib.hid rfl⟩
              rw [HX.out] at hrow
              have HXl := Lib.hid (show X.length = 8 * (5 + (k + 7) / 8 + q) by rw [← HX.out, List.length_append, NM.threads_len, HVl.out]; omega)
              go_wp2_with fail
              clear c0 c1 c2 c3
              go_loopw [3, 7] (fun v i wr => ∃ p : Nat, p ≤ q ∧ i = .int .i64 p ∧ Names wr w1.heap.size v (X ++ NM.logs l p) ∧ Ext w1 wr) (fun _ i _ => q - (intOf i).toNat)
              case atStart => exact ⟨0, Nat.zero_le _, rfl, by simpa [NM.logs] using hrow, hext⟩
              case round =>
                clear hrow hext
                obtain ⟨p, hp, rfl, hrow, hext⟩ := hrel
                obtain ⟨c0, c1, c2, c3⟩ := HC.out.ext hext hlt
                have hm : 8 * ((l + 7) / 8) * p ≤ 8 * 8 * 64 := Nat.mul_le_mul (by omega) (by omega)
                have HLl := Lib.hid (show (X ++ NM.logs l p).length = 8 * (5 + (k + 7) / 8 + q) + 8 * ((l + 7) / 8) * p by rw [List.length_append, NM.logs_len, HXl.out])
                by_cases hp2 : p < q
                · have HS := Lib.hid (NM.logs_succ l p)
                  generalize wr = wI at *
                  go_wp2_with fail
                  go_loopw [3, 8] (fun v i wr => ∃ j : Nat, j ≤ l ∧ i = .int .i64 j ∧ Names wr w1.heap.size v (X ++ NM.logs l p ++ NM.ents p j) ∧ Ext w1 wr) (fun _ i _ => l - (intOf i).toNat)
                  case atStart => exact ⟨0, Nat.zero_le _, rfl, by simpa [NM.ents] using hrow, hext⟩
                  case round =>
                    clear hrow hext c0 c1 c2 c3
                    obtain ⟨j, hj, rfl, hrow, hext⟩ := hrel
                    obtain ⟨c0, c1, c2, c3⟩ := HC.out.ext hext hlt
                    by_cases hj2 : j < l
                    · have HE := Lib.hid (NM.ents_succ p j)
                      go_wp2_with ((at_builtin; refine Hid.out ?_))
                      refine Lib.hid ?_
                      refine wpList_pushName rfl _ _ rfl w1 _ _ (X ++ NM.logs l p ++ NM.ents p j) 8 (p : Int) (j : Int) (by rfl) hrow hext (by rfl) (by rw [List.length_append, NM.ents_len, HLl.out]; omega) ?_
                      clear hrow hext
                      intro vN wN hrow hext
                      generalize vN = vM at *
                      generalize wN = wM at *
                      clear c0 c1 c2 c3
                      go_wp2_with fail
                      go_roundw
                      case rel => exact ⟨j + 1, by omega, by go_num, by rw [HE.out, ← List.append_assoc]; exact hrow, hext⟩
                      case measure => simp [intOf]; omega
                    · obtain rfl : j = l := by omega
                      clear hj hj2
                      generalize wr = wM at *
                      go_wp2_with fail
                      refine (fill_any w1 _ _ _ hrow hext (by rw [List.length_append, NM.ents_len, HLl.out]; omega)).mono ?_
                      clear hrow hext
                      rintro e wN ⟨vN, rfl, hrow, hext⟩
                      generalize vN = vM at *
                      generalize wN = wM at *
                      have hrow2 : Names wM w1.heap.size vM (X ++ NM.logs j (p + 1)) := by
                        have e := hrow
                        rw [show (X ++ NM.logs j p ++ NM.ents p j).length = (X ++ NM.logs j p).length + j by rw [List.length_append, NM.ents_len], NM.pad_mod (by rw [HLl.out, Nat.mul_assoc]; omega)] at e
                        rw [HS.out]
                        unfold NM.log
                        simpa using e
                      clear hrow c0 c1 c2 c3
                      go_wp2_with fail
                      go_roundw
                      case rel => exact ⟨p + 1, by omega, by go_num, hrow2, hext⟩
                      case measure => simp [intOf]; omega
                · obtain rfl : p = q := by omega
                  clear hp hp2
                  generalize wr = wM at *
                  obtain ⟨Y, HY⟩ : ∃ Y, Hid (X ++ NM.logs l p = Y) := ⟨_, Lib.hid rfl⟩
                  rw [HY.out] at hrow HLl
                  go_wp2_with fail
                  clear c0 c1 c2 c3
                  go_loopw [3, 9] (fun v i wr => ∃ a : Nat, a ≤ s ∧ i = .int .i64 a ∧ Names wr w1.heap.size v (Y ++ NM.slots a) ∧ Ext w1 wr) (fun _ i _ => s - (intOf i).toNat)
                  case atStart => exact ⟨0, Nat.zero_le _, rfl, by simpa [NM.slots] using hrow, hext⟩
                  case round =>
                    clear hrow hext
                    obtain ⟨a, ha, rfl, hrow, hext⟩ := hrel
                    obtain ⟨c0, c1, c2, c3⟩ := HC.out.ext hext hlt
                    have HSl := Lib.hid (show (Y ++ NM.slots a).length = 8 * (5 + (k + 7) / 8 + p) + 8 * ((l + 7) / 8) * p + 8 * a by rw [List.length_append, NM.slots_len, HLl.out])
                    by_cases ha2 : a < s
                    · have HS := Lib.hid (NM.slots_succ a)
                      generalize wr = wI at *
                      go_wp2_with fail
                      go_loopw [3, 10] (fun v i wr => ∃ j : Nat, j ≤ 5 ∧ i = .int .i64 ((9 + j : Nat) : Int) ∧ Names wr w1.heap.size v (Y ++ NM.slots a ++ NM.kinds a j) ∧ Ext w1 wr) (fun _ i _ => 14 - (intOf i).toNat)
                      case atStart => exact ⟨0, Nat.zero_le _, rfl, by simpa [NM.kinds] using hrow, hext⟩
                      case round =>
                        clear hrow hext c0 c1 c2 c3
                        obtain ⟨j, hj, rfl, hrow, hext⟩ := hrel
                        by_cases hj2 : j < 5
                        · have HE := Lib.hid (NM.kinds_succ a j)
                          have hj3 : 9 + j ≤ 13 := by omega
                          have hj4 : ((9 + j : Nat) : Int) ≤ 13 := by omega
                          have hj5 : 9 + (j : Int) ≤ 13 := by omega
                          go_wp2_with ((at_builtin; refine Hid.out ?_))
                          refine Lib.hid ?_
                          refine wpList_pushName rfl _ _ rfl w1 _ _ (Y ++ NM.slots a ++ NM.kinds a j) ((9 + j : Nat) : Int) (a : Int) 0 (by rfl) hrow hext (by rfl) (by rw [List.length_append, NM.kinds_len, HSl.out]; omega) ?_
                          clear hrow hext
                          intro vN wN hrow hext
                          generalize vN = vM at *
                          generalize wN = wM at *
                          go_wp2_with fail
                          go_roundw
                          case rel => exact ⟨j + 1, by omega, by congr 1, by rw [HE.out, ← List.append_assoc]; exact hrow, hext⟩
                          case measure => simp [intOf]; omega
                        · obtain rfl : j = 5 := by omega
                          clear hj hj2
                          generalize wr = wM at *
                          go_wp2_with fail
                          refine (fill_any w1 _ _ _ hrow hext (by rw [List.length_append, NM.kinds_len, HSl.out]; omega)).mono ?_
                          clear hrow hext
                          rintro e wN ⟨vN, rfl, hrow, hext⟩
                          generalize vN = vM at *
                          generalize wN = wM at *
                          have hrow2 : Names wM w1.heap.size vM (Y ++ NM.slots (a + 1)) := by
                            have e := hrow
                            rw [show (Y ++ NM.slots a ++ NM.kinds a 5).length = (Y ++ NM.slots a).length + 5 by rw [List.length_append, NM.kinds_len], NM.pad_mod (by rw [HSl.out, Nat.mul_assoc]; omega)] at e
                            rw [HS.out]
                            unfold NM.slot
                            simpa using e
                          clear hrow
                          go_wp2_with fail
                          go_roundw
                          case rel => exact ⟨a + 1, by omega, by go_num, hrow2, hext⟩
                          case measure => simp [intOf]; omega
                    · obtain rfl : a = s := by omega
                      have HR := Lib.hid (Names.mono (B' := w.heap.size) hrow (by omega))
                      clear hrow
                      go_wp2_with fail
                      go_ret
                      exact ⟨_, rfl, by unfold NM.last; rw [HU.out, HV.out, HX.out, HY.out]; exact HR.out, hx1.trans hext⟩
end Go.Proofs.YtolengkegjipaaaGreat


/- Numbers alone: each name lies, by its number, at its place, among the lasting words and among the passing ones. Conditions: those that each theorem names. -/
namespace Go.Proofs.YtolengkegjipaaaGreat
set_option linter.unusedVariables false
namespace NM
/-- Each name of a list that has a kind lies, by its number, at its place, from o on. -/
def Fits (F : Nat → Int) (o : Nat) (L : List Nm) : Prop := ∀ j, j < L.length → (L.getD j (0, 0, 0)).1 ≤ 1 ∨ (2 ≤ (L.getD j (0, 0, 0)).1 ∧ (L.getD j (0, 0, 0)).1 ≤ 17 ∧ toldF F (L.getD j (0, 0, 0)).1 (L.getD j (0, 0, 0)).2.1 (L.getD j (0, 0, 0)).2.2 = ((o + j : Nat) : Int))
theorem fits_append {F : Nat → Int} {o : Nat} {L M : List Nm} (h : Fits F o L) (k : Fits F (o + L.length) M) : Fits F o (L ++ M) := by
  intro j hj
  rw [List.length_append] at hj
  by_cases hl : j < L.length
  · have e : (L ++ M).getD j (0, 0, 0) = L.getD j (0, 0, 0) := by
      rw [List.getD_eq_getElem?_getD, List.getElem?_append_left hl, ← List.getD_eq_getElem?_getD]
    rw [e]; exact h j hl
  · have e : (L ++ M).getD j (0, 0, 0) = M.getD (j - L.length) (0, 0, 0) := by
      rw [List.getD_eq_getElem?_getD, List.getElem?_append_right (by omega), ← List.getD_eq_getElem?_getD]
    rw [e]
    have := k (j - L.length) (by omega)
    rwa [show o + L.length + (j - L.length) = o + j by omega] at this
theorem fits_pad (F : Nat → Int) (o n : Nat) : Fits F o (pad n) := fun j hj => by
  left
  unfold pad at hj ⊢
  rw [List.length_replicate] at hj
  rw [List.getD_eq_getElem?_getD, List.getElem?_replicate, if_pos hj]
  decide
theorem fits_one (F : Nat → Int) (o : Nat) (x : Nm) (h2 : 2 ≤ x.1) (h17 : x.1 ≤ 17) (h : toldF F x.1 x.2.1 x.2.2 = (o : Int)) : Fits F o [x] := fun j hj => by
  obtain rfl : j = 0 := by simpa using hj
  exact Or.inr ⟨h2, h17, h⟩
theorem fits_map (F : Nat → Int) (o n : Nat) (f : Nat → Nm) (h : ∀ i, i < n → 2 ≤ (f i).1 ∧ (f i).1 ≤ 17 ∧ toldF F (f i).1 (f i).2.1 (f i).2.2 = ((o + i : Nat) : Int)) : Fits F o ((List.range n).map f) := fun j hj => by
  rw [List.length_map, List.length_range] at hj
  have e : ((List.range n).map f).getD j (0, 0, 0) = f j := by
    rw [List.getD_eq_getElem?_getD, List.getElem?_map, List.getElem?_range hj]; rfl
  rw [e]
  exact Or.inr (h j hj)
theorem fits_supers (F : Nat → Int) (n : Nat) : Fits F 0 (supers n) := fun j hj => by
  left
  unfold supers at hj ⊢
  rw [List.length_map, List.length_range] at hj
  rw [List.getD_eq_getElem?_getD, List.getElem?_map, List.getElem?_range hj]
  exact Int.le_refl 1
theorem fits_flat (F : Nat → Int) (o c : Nat) (f : Nat → List Nm) : ∀ n, (∀ i, i < n → (f i).length = c) → (∀ i, i < n → Fits F (o + c * i) (f i)) → Fits F o ((List.range n).flatMap f) := by
  intro n
  induction n with
  | zero => intro _ _ j hj; exact absurd hj (by simp)
  | succ n ih =>
    intro hl hf
    have hlen : ∀ m, m ≤ n → ((List.range m).flatMap f).length = c * m := by
      intro m
      induction m with
      | zero => intro _; rfl
      | succ m ihm =>
        intro hm
        rw [List.range_succ, List.flatMap_append, List.length_append, ihm (by omega)]
        simp only [List.flatMap_cons, List.flatMap_nil, List.append_nil]
        rw [hl m (by omega), Nat.mul_succ]
    rw [List.range_succ, List.flatMap_append]
    refine fits_append (ih (fun i hi => hl i (by omega)) (fun i hi => hf i (by omega))) ?_
    rw [hlen n (Nat.le_refl _)]
    simpa using hf n (by omega)
theorem wordAt_in {v a d m n pl : Int} (h0 : 0 ≤ n) (h1 : n < m) : wordAt v a d m n pl = a + n * d + pl := if_pos ⟨h0, h1⟩
theorem fits_last (t s l b : Nat) : Fits (layF t s l b) 0 (last t s l b) := by
  have e1 : ((l : Int) + 7) / 8 = (((l + 7) / 8 : Nat) : Int) := by omega
  have e2 : ((b : Int) + 7) / 8 = (((b + 7) / 8 : Nat) : Int) := by omega
  have hF : layF t s l b = layN t s l b (((b + 7) / 8 : Nat) : Int) (((l + 7) / 8 : Nat) : Int) := by unfold layF; rw [e1, e2]
  rw [hF]
  unfold last upto4
  refine fits_append (fits_append (fits_append (fits_append (fits_append (fits_append (fits_append (fits_supers _ 16) ?_) ?_) ?_) ?_) ?_) ?_) ?_
  · exact fits_append (fits_one _ _ (2, 0, 0) (by decide) (by decide) rfl) (fits_pad _ _ _)
  · exact fits_append (fits_one _ _ (3, 0, 0) (by decide) (by decide) rfl) (fits_pad _ _ _)
  · exact fits_append (fits_one _ _ (4, 0, 0) (by decide) (by decide) rfl) (fits_pad _ _ _)
  · refine fits_append (fits_map _ _ _ _ fun i hi => ⟨by simp, by simp, ?_⟩) (fits_pad _ _ _)
    show wordAt _ 40 1 b i 0 = _
    rw [wordAt_in (by omega) (by omega), show (supers 16 ++ one 2 ++ one 3 ++ one 4).length = 40 from rfl]
    omega
  · have hV : (supers 16 ++ one 2 ++ one 3 ++ one 4 ++ (bucks b ++ pad b)).length = 40 + 8 * ((b + 7) / 8) := by
      rw [List.length_append, bpad_len]; rfl
    rw [hV]
    generalize (b + 7) / 8 = nb
    generalize (l + 7) / 8 = nl
    refine fits_flat _ _ 8 thread t (fun i _ => rfl) (fun q hq => ?_)
    unfold thread
    refine fits_append (fits_append (L := [(6, (q : Int), 0)]) (fits_one _ _ _ (by simp) (by simp) ?_) (fits_one _ _ _ (by simp) (by simp) ?_)) (fits_pad _ _ _)
    · show wordAt _ ((5 + (nb : Int)) * 8) 8 t q 0 = _
      rw [wordAt_in (by omega) (by omega)]
      simp only [Int.natCast_add, Int.natCast_mul]
      omega
    · show wordAt _ ((5 + (nb : Int)) * 8) 8 t q 1 = _
      rw [wordAt_in (by omega) (by omega)]
      simp only [Int.natCast_add, Int.natCast_mul, List.length_cons, List.length_nil]
      omega
  · have hV : (supers 16 ++ one 2 ++ one 3 ++ one 4 ++ (bucks b ++ pad b) ++ threads t).length = 40 + 8 * ((b + 7) / 8) + 8 * t := by
      rw [List.length_append, threads_len, List.length_append, bpad_len]; rfl
    rw [hV]
    refine fits_flat _ _ (8 * ((l + 7) / 8)) (log l) t (fun i _ => log_len l i) (fun p hp => ?_)
    unfold log ents
    refine fits_append (fits_map _ _ _ _ fun j hj => ⟨by simp, by simp, ?_⟩) (fits_pad _ _ _)
    generalize (b + 7) / 8 = nb
    generalize (l + 7) / 8 = nl
    show logAt _ ((5 + (nb : Int) + t) * 8) ((nl : Int) * 8) t l p j = _
    unfold logAt
    rw [if_pos ⟨by omega, by omega⟩, wordAt_in (by omega) (by omega)]
    simp only [Int.natCast_add, Int.natCast_mul]
    rw [show (p : Int) * ((nl : Int) * 8) = (8 * (nl : Int)) * p by rw [Int.mul_comm (p : Int), Int.mul_comm (nl : Int)]]
    have : ((8 : Nat) : Int) = 8 := rfl
    rw [this]
    generalize 8 * (nl : Int) * (p : Int) = z
    omega
  · have hV : (supers 16 ++ one 2 ++ one 3 ++ one 4 ++ (bucks b ++ pad b) ++ threads t ++ logs l t).length = 40 + 8 * ((b + 7) / 8) + 8 * t + 8 * ((l + 7) / 8) * t := by
      rw [List.length_append, logs_len, List.length_append, threads_len, List.length_append, bpad_len]; rfl
    rw [hV]
    generalize (b + 7) / 8 = nb
    generalize (l + 7) / 8 = nl
    refine fits_flat _ _ 8 slot s (fun i _ => slot_len i) (fun q hq => ?_)
    unfold slot kinds
    refine fits_append (fits_map _ _ _ _ fun i hi => ⟨by simp; omega, by simp; omega, ?_⟩) (fits_pad _ _ _)
    have hk : i = 0 ∨ i = 1 ∨ i = 2 ∨ i = 3 ∨ i = 4 := by omega
    have hz : (t : Int) * (nl : Int) * 8 = ((8 * nl * t : Nat) : Int) := by
      simp only [Int.natCast_mul]
      rw [Int.mul_comm _ (8 : Int), Int.mul_comm (t : Int), ← Int.mul_assoc]
      rfl
    have key : wordAt (5 + (nb : Int) + t + t * nl + s) ((5 + (nb : Int) + t + t * nl) * 8) 8 s q i = ((40 + 8 * nb + 8 * t + 8 * nl * t + 8 * q + i : Nat) : Int) := by
      rw [wordAt_in (by omega) (by omega)]
      rw [Int.add_mul, hz]
      simp only [Int.natCast_add, Int.natCast_mul]
      generalize ((8 : Nat) : Int) * (nl : Int) * (t : Int) = z
      omega
    rw [Nat.zero_add, ← key]
    rcases hk with rfl | rfl | rfl | rfl | rfl <;> rfl
def anns (n : Nat) : List Nm := (List.range n).map fun (i : Nat) => (16, (i : Int), 0)
def afts (n : Nat) : List Nm := (List.range n).map fun (i : Nat) => (17, (i : Int), 0)
/-- All passing words, in order. -/
def pass (t s : Nat) : List Nm := [(14, 0, 0), (15, 0, 0)] ++ anns t ++ afts s
theorem anns_succ (n : Nat) : anns (n + 1) = anns n ++ [(16, (n : Int), 0)] := by simp [anns, List.range_succ]
theorem afts_succ (n : Nat) : afts (n + 1) = afts n ++ [(17, (n : Int), 0)] := by simp [afts, List.range_succ]
theorem anns_len (n : Nat) : (anns n).length = n := by simp [anns]
theorem afts_len (n : Nat) : (afts n).length = n := by simp [afts]
theorem pass_len (t s : Nat) : (pass t s).length = 2 + t + s := by simp [pass, anns_len, afts_len]; omega
theorem pass_at (t s : Nat) (j : Nat) (hj : j < 2 + t + s) : (pass t s).getD j (0, 0, 0) = if j = 0 then (14, 0, 0) else if j = 1 then (15, 0, 0) else if j < 2 + t then (16, ((j - 2 : Nat) : Int), 0) else (17, ((j - 2 - t : Nat) : Int), 0) := by
  match j with
  | 0 => rfl
  | 1 => rfl
  | j + 2 =>
    rw [if_neg (by omega), if_neg (by omega)]
    unfold pass
    rw [List.append_assoc, List.getD_eq_getElem?_getD, List.getElem?_append_right (by simp)]
    simp only [List.length_cons, List.length_nil, Nat.add_sub_cancel]
    by_cases h : j < t
    · rw [if_pos (by omega), List.getElem?_append_left (by rw [anns_len]; exact h)]
      unfold anns
      rw [List.getElem?_map, List.getElem?_range h]; rfl
    · rw [if_neg (by omega), List.getElem?_append_right (by rw [anns_len]; omega), anns_len]
      unfold afts
      rw [List.getElem?_map, List.getElem?_range (by omega)]; rfl
theorem fits_pass (t s l b : Nat) (j : Nat) (hj : j < (pass t s).length) : 2 ≤ ((pass t s).getD j (0, 0, 0)).1 ∧ ((pass t s).getD j (0, 0, 0)).1 ≤ 17 ∧ toldF (layF t s l b) ((pass t s).getD j (0, 0, 0)).1 ((pass t s).getD j (0, 0, 0)).2.1 ((pass t s).getD j (0, 0, 0)).2.2 = -1 - (j : Int) := by
  rw [pass_len] at hj
  rw [pass_at t s j hj]
  by_cases h0 : j = 0
  · rw [if_pos h0]; subst h0; exact ⟨by decide, by decide, rfl⟩
  rw [if_neg h0]
  by_cases h1 : j = 1
  · rw [if_pos h1]; subst h1; exact ⟨by decide, by decide, rfl⟩
  rw [if_neg h1]
  by_cases h2 : j < 2 + t
  · rw [if_pos h2]
    refine ⟨by simp, by simp, ?_⟩
    show wordAt _ (-3) (-1) t ((j - 2 : Nat) : Int) 0 = _
    rw [wordAt_in (by omega) (by omega)]
    omega
  · rw [if_neg h2]
    refine ⟨by simp, by simp, ?_⟩
    show wordAt _ (-1 - (2 + (t : Int))) (-1) s ((j - 2 - t : Nat) : Int) 0 = _
    rw [wordAt_in (by omega) (by omega)]
    omega
theorem flat_at (L : List Nm) : ∀ i, i < L.length → (flat L).getD (3 * i) 0 = (L.getD i (0, 0, 0)).1 ∧ (flat L).getD (3 * i + 1) 0 = (L.getD i (0, 0, 0)).2.1 ∧ (flat L).getD (3 * i + 2) 0 = (L.getD i (0, 0, 0)).2.2 := by
  induction L with
  | nil => intro i hi; exact absurd hi (by simp)
  | cons x L ih =>
    intro i hi
    have e : flat (x :: L) = x.1 :: x.2.1 :: x.2.2 :: flat L := rfl
    rw [e]
    match i with
    | 0 => exact ⟨rfl, rfl, rfl⟩
    | i + 1 =>
      have := ih i (by simpa using hi)
      exact this
end NM
end Go.Proofs.YtolengkegjipaaaGreat


/- All passing words of a config by their names, as the document's answer lays them. Conditions: those that each theorem names. -/
namespace Go.Proofs.YtolengkegjipaaaGreat
open Go.ChangeShapes Go.WideShapes Go.ChangeAt Go.RowKit
set_option linter.unusedVariables false
theorem names_two (w : World) : Names (w.alloc (.cells #[.int .i64 14, .int .i64 0, .int .i64 0, .int .i64 15, .int .i64 0, .int .i64 0] 57)) w.heap.size (.slice (some ⟨w.heap.size, 0, none⟩) 2 2) [(14, 0, 0), (15, 0, 0)] :=
  World.ownsRow_lit (e := 57) (size := 3) (base := w.heap.size) w #[.int .i64 14, .int .i64 0, .int .i64 0, .int .i64 15, .int .i64 0, .int .i64 0] 2 (Nat.le_refl _) (by decide) rfl
set_option maxRecDepth 100000 in
set_option maxHeartbeats 2000000 in
theorem passing_any (t s : Nat) (l b : Int) (w : World) (ht : t ≤ 64) (hs : s ≤ 65536) :
    Calls Tryz.prog 25 #[.agg #[.int .i64 t, .int .i64 s, .int .i64 l, .int .i64 b]] w fun e w' => ∃ v, e = .returned v ∧ Names w' w.heap.size v (NM.pass t s) ∧ Ext w w' := by
  go_enter Tryz.func25, Tryz.ntmps25
  go_wp2_with fail
  obtain ⟨w1, HW1⟩ : ∃ w1, Hid (w.alloc (.cells #[.int .i64 t, .int .i64 s, .int .i64 l, .int .i64 b] 23) = w1) := ⟨_, Lib.hid rfl⟩
  have HC := Lib.hid (show C4 w1 w.heap.size t s l b by rw [← HW1.out]; exact C4.new w _ _ _ _ _)
  have hz : w.heap.size + 1 = w1.heap.size := by rw [← HW1.out]; simp
  have hx1 : Ext w w1 := by rw [← HW1.out]; exact (Ext.refl w).alloc _
  have hlt : w.heap.size < w1.heap.size := by omega
  rw [HW1.out]
  try rw [hz]
  clear HW1 hz
  obtain ⟨w2, HW2⟩ : ∃ w2, Hid (w1.alloc (.cells #[.int .i64 14, .int .i64 0, .int .i64 0, .int .i64 15, .int .i64 0, .int .i64 0] 57) = w2) := ⟨_, Lib.hid rfl⟩
  have hrow : Names w2 w1.heap.size (.slice (some ⟨w1.heap.size, 0, none⟩) 2 2) [(14, 0, 0), (15, 0, 0)] := by rw [← HW2.out]; exact names_two w1
  have hext : Ext w1 w2 := by rw [← HW2.out]; exact (Ext.refl w1).alloc _
  rw [HW2.out]
  clear HW2
  go_loopw [3, 4] (fun v i wr => ∃ k : Nat, k ≤ t ∧ i = .int .i64 k ∧ Names wr w1.heap.size v ([(14, 0, 0), (15, 0, 0)] ++ NM.anns k) ∧ Ext w1 wr) (fun _ i _ => t - (intOf i).toNat)
  case atStart => exact ⟨0, Nat.zero_le _, rfl, by simpa [NM.anns] using hrow, hext⟩
  case round =>
    clear hrow hext
    obtain ⟨k, hk, rfl, hrow, hext⟩ := hrel
    obtain ⟨c0, c1, c2, c3⟩ := HC.out.ext hext hlt
    by_cases hk2 : k < t
    · have HS := Lib.hid (NM.anns_succ k)
      go_wp2_with ((at_builtin; refine Hid.out ?_))
      refine Lib.hid ?_
      refine wpList_pushName rfl _ _ rfl w1 _ _ ([(14, 0, 0), (15, 0, 0)] ++ NM.anns k) 16 (k : Int) 0 (by rfl) hrow hext (by rfl) (by rw [List.length_append, NM.anns_len]; simp; omega) ?_
      clear hrow hext c0 c1 c2 c3
      intro vN wN hrow hext
      go_wp2_with fail
      go_roundw
      case rel => exact ⟨k + 1, by omega, by go_num, by rw [HS.out, ← List.append_assoc]; exact hrow, hext⟩
      case measure => simp [intOf]; omega
    · obtain rfl : k = t := by omega
      clear hk hk2
      generalize wr = wM at *
      obtain ⟨V, HV⟩ : ∃ V, Hid ([(14, 0, 0), (15, 0, 0)] ++ NM.anns k = V) := ⟨_, Lib.hid rfl⟩
      rw [HV.out] at hrow
      have HVl := Lib.hid (show V.length = 2 + k by rw [← HV.out, List.length_append, NM.anns_len]; rfl)
      go_wp2_with fail
      clear c0 c1 c2 c3
      go_loopw [3, 5] (fun v i wr => ∃ q : Nat, q ≤ s ∧ i = .int .i64 q ∧ Names wr w1.heap.size v (V ++ NM.afts q) ∧ Ext w1 wr) (fun _ i _ => s - (intOf i).toNat)
      case atStart => exact ⟨0, Nat.zero_le _, rfl, by simpa [NM.afts] using hrow, hext⟩
      case round =>
        clear hrow hext
        obtain ⟨q, hq, rfl, hrow, hext⟩ := hrel
        obtain ⟨c0, c1, c2, c3⟩ := HC.out.ext hext hlt
        by_cases hq2 : q < s
        · have HS := Lib.hid (NM.afts_succ q)
          go_wp2_with ((at_builtin; refine Hid.out ?_))
          refine Lib.hid ?_
          refine wpList_pushName rfl _ _ rfl w1 _ _ (V ++ NM.afts q) 17 (q : Int) 0 (by rfl) hrow hext (by rfl) (by rw [List.length_append, NM.afts_len, HVl.out]; omega) ?_
          clear hrow hext c0 c1 c2 c3
          intro vN wN hrow hext
          go_wp2_with fail
          go_roundw
          case rel => exact ⟨q + 1, by omega, by go_num, by rw [HS.out, ← List.append_assoc]; exact hrow, hext⟩
          case measure => simp [intOf]; omega
        · obtain rfl : q = s := by omega
          have HR := Lib.hid (Names.mono (B' := w.heap.size) hrow (by omega))
          clear hrow
          go_wp2_with fail
          go_ret
          exact ⟨_, rfl, by unfold NM.pass; rw [HV.out]; exact HR.out, hx1.trans hext⟩
end Go.Proofs.YtolengkegjipaaaGreat

