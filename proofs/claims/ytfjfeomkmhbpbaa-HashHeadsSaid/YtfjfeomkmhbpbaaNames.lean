/- Rows of names that the call made itself, and a name laid behind them; all lasting words of a config by their names. Conditions: those that each theorem names. -/
import Derived.Test.YtfjfeomkmhbpbaaLay1
namespace Go.Proofs.Ytfjfeomkmhbpbaa
open Go.ChangeShapes Go.WideShapes Go.ChangeAt Go.RowKit
set_option linter.unusedVariables false
namespace NM
abbrev Nm := Int × Int × Int
def flat (L : List Nm) : List Int := L.flatMap fun x => [x.1, x.2.1, x.2.2]
theorem flat_append (L M : List Nm) : flat (L ++ M) = flat L ++ flat M := by simp [flat]
theorem flat_len (L : List Nm) : (flat L).length = 3 * L.length := by
  induction L with
  | nil => rfl
  | cons x L ih =>
    have : flat (x :: L) = [x.1, x.2.1, x.2.2] ++ flat L := rfl
    rw [this, List.length_append, ih, List.length_cons]
    simp only [List.length_cons, List.length_nil]
    omega
/-- Words without a name up to the end of a line. -/
def pad (n : Nat) : List Nm := List.replicate ((8 - n % 8) % 8) (0, 0, 0)
theorem pad_len (n : Nat) : (pad n).length = (8 - n % 8) % 8 := by simp [pad]
def supers (n : Nat) : List Nm := (List.range n).map fun i => (1, ((i / 8 : Nat) : Int), ((i % 8 : Nat) : Int))
def one (k : Int) : List Nm := [(k, 0, 0)] ++ pad 1
def bucks (n : Nat) : List Nm := (List.range n).map fun (i : Nat) => (5, (i : Int), 0)
def thread (t : Nat) : List Nm := [(6, (t : Int), 0), (7, (t : Int), 0)] ++ pad 2
def threads (n : Nat) : List Nm := (List.range n).flatMap thread
def ents (t n : Nat) : List Nm := (List.range n).map fun (i : Nat) => (8, (t : Int), (i : Int))
def log (l t : Nat) : List Nm := ents t l ++ pad l
def logs (l n : Nat) : List Nm := (List.range n).flatMap (log l)
def kinds (s n : Nat) : List Nm := (List.range n).map fun i => (((9 + i : Nat) : Int), (s : Int), 0)
def slot (s : Nat) : List Nm := kinds s 5 ++ pad 5
def slots (n : Nat) : List Nm := (List.range n).flatMap slot
def upto4 : List Nm := supers 16 ++ one 2 ++ one 3 ++ one 4
/-- All lasting words, in order. -/
def last (t s l b : Nat) : List Nm := upto4 ++ (bucks b ++ pad b) ++ threads t ++ logs l t ++ slots s
theorem supers_succ (n : Nat) : supers (n + 1) = supers n ++ [(1, ((n / 8 : Nat) : Int), ((n % 8 : Nat) : Int))] := by simp [supers, List.range_succ]
theorem bucks_succ (n : Nat) : bucks (n + 1) = bucks n ++ [(5, (n : Int), 0)] := by simp [bucks, List.range_succ]
theorem ents_succ (t n : Nat) : ents t (n + 1) = ents t n ++ [(8, (t : Int), (n : Int))] := by simp [ents, List.range_succ]
theorem kinds_succ (s n : Nat) : kinds s (n + 1) = kinds s n ++ [(((9 + n : Nat) : Int), (s : Int), 0)] := by simp [kinds, List.range_succ]
theorem threads_succ (n : Nat) : threads (n + 1) = threads n ++ thread n := by simp [threads, List.range_succ, List.flatMap_append]
theorem logs_succ (l n : Nat) : logs l (n + 1) = logs l n ++ log l n := by simp [logs, List.range_succ, List.flatMap_append]
theorem slots_succ (n : Nat) : slots (n + 1) = slots n ++ slot n := by simp [slots, List.range_succ, List.flatMap_append]
theorem supers_len (n : Nat) : (supers n).length = n := by simp [supers]
theorem bucks_len (n : Nat) : (bucks n).length = n := by simp [bucks]
theorem ents_len (t n : Nat) : (ents t n).length = n := by simp [ents]
theorem kinds_len (t n : Nat) : (kinds t n).length = n := by simp [kinds]
theorem one_len (k : Int) : (one k).length = 8 := rfl
theorem upto4_len : upto4.length = 40 := rfl
theorem thread_len (t : Nat) : (thread t).length = 8 := rfl
theorem slot_len (t : Nat) : (slot t).length = 8 := by simp [slot, kinds_len, pad_len]
theorem log_len (l t : Nat) : (log l t).length = 8 * ((l + 7) / 8) := by simp [log, ents_len, pad_len]; omega
theorem threads_len (n : Nat) : (threads n).length = 8 * n := by
  induction n with
  | zero => rfl
  | succ n ih => rw [threads_succ, List.length_append, ih, thread_len]; omega
theorem logs_len (l n : Nat) : (logs l n).length = 8 * ((l + 7) / 8) * n := by
  induction n with
  | zero => rfl
  | succ n ih => rw [logs_succ, List.length_append, ih, log_len, Nat.mul_succ]
theorem slots_len (n : Nat) : (slots n).length = 8 * n := by
  induction n with
  | zero => rfl
  | succ n ih => rw [slots_succ, List.length_append, ih, slot_len]; omega
theorem bpad_len (b : Nat) : (bucks b ++ pad b).length = 8 * ((b + 7) / 8) := by simp [bucks_len, pad_len]; omega
theorem last_len (t s l b : Nat) : (last t s l b).length = 8 * (5 + (b + 7) / 8 + t + (l + 7) / 8 * t + s) := by
  unfold last
  rw [List.length_append, List.length_append, List.length_append, List.length_append, upto4_len, bpad_len, threads_len, logs_len, slots_len, Nat.mul_assoc]
  omega
theorem pad_mod {n m : Nat} (h : n % 8 = 0) : pad (n + m) = pad m := by
  unfold pad
  rw [show (n + m) % 8 = m % 8 by omega]
end NM
/-- A row of names of the call's own. -/
def Names (w : World) (B : Nat) (v : Value) (L : List NM.Nm) : Prop := RowN w B 74 3 .i64 v L.length (NM.flat L)
theorem Names.nil (w : World) (B : Nat) : Names w B (.slice none 0 0) [] := RowN.nil w B _ 3 _
theorem Names.ext {w w' : World} {B : Nat} {v : Value} {L : List NM.Nm} (h : Names w B v L) (x : Ext w w') : Names w' B v L := RowN.ext h x
theorem Names.mono {w : World} {B B' : Nat} {v : Value} {L : List NM.Nm} (h : Names w B v L) (hB : B' ≤ B) : Names w B' v L := RowN.mono h hB
theorem Names.form {w : World} {B : Nat} {v : Value} {L : List NM.Nm} (h : Names w B v L) : ∃ A c, v = .slice A L.length c ∧ Ints w .i64 A (NM.flat L) := by
  obtain ⟨A, c, hv, _, _, hI, _⟩ := RowN.form h (by decide)
  exact ⟨A, c, hv, hI⟩
theorem name_info : (Try.prog.info? 74).map (fun i => (i.zero, i.size, i.bytes)) = some (some (.agg #[.int .i64 0, .int .i64 0, .int .i64 0]), 3, 24) := by kernel_rfl
/-- append(l, a name). -/
theorem wpList_pushName {ops : Array Oper} {rest : List Oper} {o : Oper} {a : Act} {Q : Exit → Act → World → Prop} (hgd : o.guard = none) (s x : Operand)
    (ho : o.op = .call { callee := .builtin .append, args := #[s, x], argTypes := #[75, 75] })
    (w0 W : World) (v : Value) (L : List NM.Nm) (k y z : Int) (hs : a.eval s = v) (hrow : Names W w0.heap.size v L) (ext : Ext w0 W)
    (hx : a.eval x = .slice (some ⟨W.heap.size, 0, none⟩) 1 1) (hlen : L.length < 100000000)
    (h : ∀ v' w', Names w' w0.heap.size v' (L ++ [(k, y, z)]) → Ext w0 w' → wpList Try.prog ops Q rest (a.put o.dst v') w') :
    wpList Try.prog ops Q (o :: rest) a (W.alloc (.cells #[.int .i64 k, .int .i64 y, .int .i64 z] 74)) := by
  refine wpList_appN hgd s x _ ho 74 .i64 3 24 _ name_info rfl (by decide) (by decide) Try.underlying75 w0 _ v L.length (NM.flat L) hs (RowN.ext hrow ((Ext.refl W).alloc _)) (ext.alloc _) ⟨W.heap.size, 0, none⟩ 1 1 [k, y, z] hx rfl ?_ (by omega) ?_
  · intro j hj
    have hj' : j < 3 := hj
    rw [at0, cell_of_row _ _ _ _ _ _ (heap_alloc_new W _)]
    match j, hj' with
    | 0, _ => rfl
    | 1, _ => rfl
    | 2, _ => rfl
  · intro v' w' hr hx' _ _
    refine h v' w' ?_ hx'
    unfold Names
    rw [NM.flat_append, List.length_append]
    exact hr
set_option maxHeartbeats 400000 in
theorem fill_any (w0 w : World) (v : Value) (L : List NM.Nm) (hrow : Names w w0.heap.size v L) (hx : Ext w0 w) (hl : L.length < 1000000) :
    Calls Try.prog 57 #[v] w fun e w' => ∃ v', e = .returned v' ∧ Names w' w0.heap.size v' (L ++ NM.pad L.length) ∧ Ext w0 w' := by
  go_enter Try.func57, Try.ntmps57
  go_wp2
  go_loopw [0] (fun u wr => ∃ k : Nat, k ≤ (8 - L.length % 8) % 8 ∧ Names wr w0.heap.size u (L ++ List.replicate k (0, 0, 0)) ∧ Ext w0 wr) (fun u _ => match u with | .slice _ n _ => L.length + 8 - n | _ => 0)
  case atStart => exact ⟨0, Nat.zero_le _, by simpa using hrow, hx⟩
  case round =>
    obtain ⟨k, hk, hr, hxr⟩ := hrel
    obtain ⟨A, c, rfl, hI⟩ := hr.form
    have hn : (L ++ List.replicate k ((0, 0, 0) : NM.Nm)).length = L.length + k := by simp
    have HN := Lib.hid hn
    rw [hn] at hr ⊢
    clear hn
    by_cases hlt : k < (8 - L.length % 8) % 8
    · have t1 : (((L.length + k : Nat) : Int) % 8 != 0) = true := by rw [bne_iff_ne]; omega
      have t2 : ((((L.length : Nat) : Int) + (k : Int)) % 8 != 0) = true := by rw [bne_iff_ne]; omega
      have t3 : ¬ (L.length + k) % 8 = 0 := by omega
      have t4 : ((L.length + k) % 8 != 0) = true := by rw [bne_iff_ne]; omega
      go_wp2_with ((at_builtin; refine Hid.out ?_))
      refine Lib.hid ?_
      refine wpList_pushName rfl _ _ rfl w0 wr _ (L ++ List.replicate k (0, 0, 0)) 0 0 0 (by rfl) hr hxr (by rfl) (by rw [HN.out]; omega) ?_
      intro v' w' hrow' hext'
      rw [List.append_assoc, ← List.replicate_succ'] at hrow'
      obtain ⟨A', c', hv', _⟩ := hrow'.form
      have hn' : (L ++ List.replicate (k + 1) ((0, 0, 0) : NM.Nm)).length = L.length + (k + 1) := by simp
      rw [hn'] at hv'
      subst hv'
      clear hr t1 t2 t3 t4 hn'
      go_wp2_with fail
      go_roundw
      case rel => exact ⟨k + 1, by omega, hrow', hext'⟩
      case measure => simp; omega
    · have ek : k = (8 - L.length % 8) % 8 := by omega
      have t1 : (((L.length + k : Nat) : Int) % 8 != 0) = false := by rw [bne_eq_false_iff_eq]; omega
      have t2 : ((((L.length : Nat) : Int) + (k : Int)) % 8 != 0) = false := by rw [bne_eq_false_iff_eq]; omega
      have t3 : (L.length + k) % 8 = 0 := by omega
      have t4 : ((L.length + k) % 8 != 0) = false := by rw [bne_eq_false_iff_eq]; omega
      have HR := Lib.hid (show Names wr w0.heap.size (.slice A (L.length + k) c) (L ++ NM.pad L.length) by unfold NM.pad; rw [← ek]; exact hr)
      clear hr ek
      go_wp2_with fail
      go_ret
      exact ⟨_, rfl, HR.out, hxr⟩
end Go.Proofs.Ytfjfeomkmhbpbaa
