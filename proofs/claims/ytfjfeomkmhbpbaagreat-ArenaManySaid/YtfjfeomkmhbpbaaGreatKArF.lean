/- Several threads that take slots and give them back between one another (layer 12): what holds, and what a step keeps. Conditions: those that each theorem names. -/
import Derived.Test.YtfjfeomkmhbpbaaGreatKArE
import Derived.Test.YtfjfeomkmhbpbaaGreatKFN
import Derived.Test.YtfjfeomkmhbpbaaGreatArgs
import Derived.Deep.DeepCutAuto
import Derived.Deep.CutBlock
import Derived.Deep.MidRow
namespace Go.Proofs.YtfjfeomkmhbpbaaGreat
open Go.ChangeShapes Go.WideShapes Go.ChangeAt Go.RowKit
set_option linter.unusedVariables false
/-- A thread: its Take, or its Give and the slot of that. -/
inductive AHd where
  | idle
  | take (gt : Nat) (x : TkM)
  | give (gg gu : Nat) (x : GvM) (a : Int)
/-- What it does at the free list. -/
def AHd.al : AHd → Hd
  | .idle => ⟨true, 0, pm0⟩
  | .take _ x => if x.part = 1 ∨ x.part = 4 then ⟨true, 0, x.pop⟩ else if 5 ≤ x.part then ⟨false, 0, ⟨0, 0, toN x.pop.top, false⟩⟩ else ⟨true, 0, pm0⟩
  | .give _ _ x _ => ⟨false, 0, x.push⟩
/-- What it holds. -/
def AHd.val : AHd → Int
  | .idle => -1
  | .take _ x => x.holds
  | .give _ _ _ a => a
def AHd.Ok (t l : Nat) : AHd → Prop
  | .idle => False
  | .take _ x => x.Wf t l ∧ x.part ≠ 0 ∧ (x.part = 3 → ∀ q, x.rc = some q → q.2.part = 0 ∨ q.2.part = 1)
  | .give _ _ x a => x.push.Wf ∧ x.push.y = a ∧ x.push.dn = false ∧ 0 ≤ a
theorem val_al {t l : Nat} {h : AHd} (ok : h.Ok t l) : h.val = if h.al.pop = true then -1 else h.al.x.y := by
  cases h with
  | idle => exact ok.elim
  | give gg gu x a => exact ok.2.1.symm
  | take gt x =>
    obtain ⟨hw, hp, hr⟩ := ok
    have h9 := hw.part
    unfold AHd.val AHd.al TkM.holds
    have hcs : x.part = 1 ∨ x.part = 2 ∨ x.part = 3 ∨ x.part = 4 ∨ 5 ≤ x.part := by omega
    rcases hcs with e | e | e | e | e
    · simp only [hw.p14 (Or.inl e), (hw.p1 e).1, if_pos (Or.inl e : x.part = 1 ∨ x.part = 4)]
      simp
    · obtain ⟨ga, a, gr, _, _, _, _, e3⟩ := hw.p2 e
      obtain ⟨d1, d2⟩ := hw.p23 (Or.inl e)
      simp only [if_neg (show ¬ (x.part = 1 ∨ x.part = 4) by omega), if_neg (show ¬ 5 ≤ x.part by omega), d1, d2, e3]
      rfl
    · obtain ⟨gr, r, e1, hrw, hrd, _⟩ := hw.p3 e
      obtain ⟨d1, d2⟩ := hw.p23 (Or.inr e)
      have hn : r.push = none := hrw.wf.nopush hrd (by rcases hr e (gr, r) e1 with h | h <;> (simp only at h; omega))
      simp only [if_neg (show ¬ (x.part = 1 ∨ x.part = 4) by omega), if_neg (show ¬ 5 ≤ x.part by omega), d1, d2, e1, RcM.tells, hn]
      rfl
    · obtain ⟨gr, r, e1⟩ := hw.p4r e
      have hn := (hw.rd (Or.inr (by omega)) (gr, r) e1).2
      simp only at hn
      simp only [hw.p14 (Or.inr e), e1, if_pos (Or.inr e : x.part = 1 ∨ x.part = 4), RcM.tells, hn]
      simp
    · obtain ⟨d1, d2⟩ := hw.p5 e
      simp only [if_neg (show ¬ (x.part = 1 ∨ x.part = 4) by omega), if_pos e, d1, if_true]
      rw [if_neg (by omega)]
      rfl
theorem val_had {t l : Nat} {h : AHd} (ok : h.Ok t l) {k : Int} (hk : 0 ≤ k) : (if h.val = k then 1 else 0) = had1 k h.al := by
  rw [val_al ok]
  unfold had1
  by_cases hp : h.al.pop = true
  · rw [if_pos hp, if_pos hp, if_neg (by omega)]
  · rw [if_neg hp, if_neg hp]
theorem val_count {t l : Nat} {k : Int} (hk : 0 ≤ k) : ∀ (hs : List AHd), (∀ h ∈ hs, h.Ok t l) → (hs.map AHd.val).count k = hadC k (hs.map AHd.al)
  | [], _ => rfl
  | h :: hs, ok => by
    have ih := val_count hk hs (fun x m => ok x (by simp [m]))
    have h1 := val_had (ok h (by simp)) hk
    rw [List.map_cons, List.map_cons, List.count_cons, ih]
    show _ + _ = had1 k h.al + hadC k (hs.map AHd.al)
    rw [← h1, Nat.add_comm]
    congr 1
    by_cases e : h.val = k
    · rw [if_pos e, if_pos (by simpa using e)]
    · rw [if_neg e, if_neg (by simpa using e)]
theorem set_same {α : Type} {l : List α} {i : Nat} {a : α} (h : l[i]? = some a) : l.set i a = l := by
  obtain ⟨hlt, e⟩ := List.getElem?_eq_some_iff.1 h
  subst e
  exact List.set_getElem_self hlt
section
variable {t s l b n : Nat}
/-- What is done aside of the free list. -/
theorem FM.aside {hs : List Hd} {L : List Int} {st st' : MSt} (h : FM t s l b n hs L st) (ok : MOk (2 + t + s) (wN t s l b) st') (ht : peekV st' (-2) = peekV st (-2)) (hn : ∀ k : Int, 0 ≤ k → k < (s : Int) → nextS (layF t s l b) st' k = nextS (layF t s l b) st k) : FM t s l b (n + 1) hs L st' := by
  refine ⟨ok, ?_, by rw [ht]; have := h.v; omega, h.rng, h.cnt, fun j hj e => ?_⟩
  · rw [ht]
    exact h.ch.turn _ _ (fun x m => hn x (h.rng x m).1 (h.rng x m).2)
  · have k := h.each j hj e
    refine k.same ht (fun a ha => ?_)
    rcases ha with ⟨_, e2, h0⟩ | ⟨hp, e2⟩
    · obtain ⟨L', hL, _⟩ := h.head (by rw [← e2]; exact h0)
      have := h.rng a (by rw [hL, e2]; simp)
      exact hn a this.1 this.2
    · rw [e2]
      exact hn _ (k.yr hp).1 (k.yr hp).2
structure FMA (t s l b n : Nat) (hs : List AHd) (L : List Int) (st : MSt) : Prop where
  fm : FM t s l b n (hs.map AHd.al) L st
  lg : ∀ i m : Nat, i < t → m < l → peekV st (logN (layF t s l b) i m) = 0
  ok : ∀ (i : Nat) (h : AHd), hs[i]? = some h → h.Ok t l
theorem FMA.put {hs : List AHd} {L L' : List Int} {st st' : MSt} {i : Nat} {h' : AHd} (h : FMA t s l b n hs L st) (hi : i < hs.length) (fm : FM t s l b (n + 1) ((hs.map AHd.al).set i h'.al) L' st') (lg : ∀ i m : Nat, i < t → m < l → peekV st' (logN (layF t s l b) i m) = 0) (ok : h'.Ok t l) : FMA t s l b (n + 1) (hs.set i h') L' st' := by
  refine ⟨by rw [List.map_set]; exact fm, lg, fun j hj e => ?_⟩
  rw [set_get _ _ _ _ hi] at e
  by_cases ej : j = i
  · rw [if_pos ej] at e
    injection e with e
    rw [← e]
    exact ok
  · rw [if_neg ej] at e
    exact h.ok j hj e
theorem FMA.al_at {hs : List AHd} {L : List Int} {st : MSt} {i : Nat} {h0 : AHd} (h : FMA t s l b n hs L st) (e : hs[i]? = some h0) : (hs.map AHd.al)[i]? = some h0.al := by
  rw [List.getElem?_map, e]
  rfl
/-- Where what a thread does at the free list stays the same. -/
theorem FMA.aside {hs : List AHd} {L : List Int} {st st' : MSt} {i : Nat} {h0 h' : AHd} (h : FMA t s l b n hs L st) (e : hs[i]? = some h0) (hal : h'.al = h0.al) (ok : MOk (2 + t + s) (wN t s l b) st') (ht : peekV st' (-2) = peekV st (-2)) (hn : ∀ k : Int, 0 ≤ k → k < (s : Int) → nextS (layF t s l b) st' k = nextS (layF t s l b) st k) (lg : ∀ i m : Nat, i < t → m < l → peekV st' (logN (layF t s l b) i m) = 0) (hk : h'.Ok t l) : FMA t s l b (n + 1) (hs.set i h') L st' :=
  h.put (List.getElem?_eq_some_iff.1 e).1 (by rw [hal, set_same (h.al_at e)]; exact h.fm.aside ok ht hn) lg hk
theorem nx_of {st st' : MSt} (hp : ∀ a : Int, a < -1 → peekV st' a = peekV st a) : peekV st' (-2) = peekV st (-2) ∧ ∀ k : Int, 0 ≤ k → k < (s : Int) → nextS (layF t s l b) st' k = nextS (layF t s l b) st k :=
  ⟨hp (-2) (by decide), fun k k0 k1 => by
    unfold nextS
    rw [aft_at k0 k1]
    exact congrArg toN (hp _ (by omega))⟩
theorem popS_was {F : Nat → Int} {th : Int} {x : PMs} {st : MSt} {P N : Nat} (ok : MOk P N st) (hP : 2 ≤ P) (hw : x.Wf) (hd : x.dn = false) (h : (popS F th x st).1.dn = true) : (popS F th x st).1.top = peekV st (-2) := by
  obtain ⟨part, top, y, dn⟩ := x
  simp only at hd
  subst hd
  rcases hw.part with e | e | e
  · have e' : part = 0 := e
    subst e'
    rfl
  · have e' : part = 1 := e
    subst e'
    cases h
  · have e' : part = 2 := e
    subst e'
    have h2 : swapB st (-2) top = true := h
    rw [swapB_is (ok.is (by omega) (by omega))] at h2
    exact (of_decide_eq_true h2).symm
/-- What a step of a Take at thread i leaves. -/
def TakeLeft (t s l b n : Nat) (hs : List AHd) (i gt : Nat) (p : TkM × MSt) : Prop :=
  (p.1.part ≠ 0 → ∃ L', FMA t s l b (n + 1) (hs.set i (.take gt p.1)) L' p.2) ∧
  (p.1.part = 0 → (toN p.1.pop.top = -1 ∧ p.1.dry = true ∧ p.1.empty = p.2.clock ∧ ∀ gt' gu', FMA t s l b (n + 1) (hs.set i (.take gt' ⟨1, gu', pm0, none, none, none, false, 0, 0⟩)) [] p.2) ∨
    ∃ (a : Int) (L' : List Int), toN p.1.pop.top = a ∧ 0 ≤ a ∧ a < (s : Int) ∧ ∀ gg gu, FMA t s l b (n + 1) (hs.set i (.give gg gu ⟨false, ⟨0, 0, a, false⟩⟩ a)) L' p.2)
theorem new_ok {gt gu : Nat} : (AHd.take gt ⟨1, gu, pm0, none, none, none, false, 0, 0⟩).Ok t l := ⟨tkNew_wf, by show (1 : Nat) ≠ 0; decide, fun e => absurd e (by show ¬ (1 : Nat) = 3; decide)⟩
theorem give_ok0 {gg gu : Nat} {a : Int} (h0 : 0 ≤ a) (h1 : a < 1000000) : (AHd.give gg gu ⟨false, ⟨0, 0, a, false⟩⟩ a).Ok t l :=
  ⟨⟨Or.inl rfl, w64_0, ⟨by show _ ≤ a; omega, by show a < _; omega⟩⟩, rfl, rfl, h0⟩
structure FewC (t s l b : Nat) : Prop where
  b0 : 0 < b
  b8 : b ≤ 8
  l0 : 0 < l
  l8 : l ≤ 8
  s1 : s ≤ 1000
set_option maxHeartbeats 1000000 in
theorem FMA.take {hs : List AHd} {L : List Int} {st : MSt} {i gt n1 n2 : Nat} {x : TkM} (h : FMA t s l b n hs L st) (hf : FewC t s l b) (hn : n ≤ 1000) (hU : ∀ a, W64 (peekV st a)) {c : Int} (hc : CalmN c st) (e : hs[i]? = some (.take gt x)) (hi : i < t) :
    TakeLeft t s l b n hs i gt (tkS (layF t s l b) t (i : Int) x st n1 n2) := by
  obtain ⟨hb0, hb8, hl0, hl8, hs1⟩ := hf
  have hok := h.ok i _ e
  obtain ⟨hw, hp0, hr3⟩ := hok
  have h9 := hw.part
  have hlt : i < hs.length := (List.getElem?_eq_some_iff.1 e).1
  have hwf := (tkS_wf (F := layF t s l b) (T := t) (L := l) (t := (i : Int)) (n1 := n1) (n2 := n2) rfl hl0 hU hw hc).1
  have okM : MOk (2 + t + s) (wN t s l b) st := h.fm.ok
  have eI := TA.int_at (s := s) (l := l) hb0 hb8 hi
  have eN := TA.wN_at (t := t) (s := s) hb0 hb8 hl0 hl8
  have eL : ∀ j m : Nat, j < t → m < l → logN (layF t s l b) j m = 48 + 8 * (t : Int) + 8 * (j : Int) + (m : Int) := fun j m hj hm => TA.log_at hb0 hb8 hl0 hl8 hj hm
  have hal := h.al_at e
  have hcs : x.part = 1 ∨ x.part = 2 ∨ x.part = 3 ∨ x.part = 4 ∨ x.part = 5 ∨ x.part = 6 ∨ x.part = 7 ∨ x.part = 8 ∨ x.part = 9 := by omega
  have lgl : ∀ a : Int, ∀ j m : Nat, j < t → m < l → peekV (st.load (i : Int) a) (logN (layF t s l b) j m) = 0 := fun a j m hj hm => by rw [peekV_load]; exact h.lg j m hj hm
  -- the first and the second Pop
  have pops : ∀ (hx : x.part = 1 ∨ x.part = 4), (popS (layF t s l b) (i : Int) x.pop st).2 = (popS (layF t s l b) (i : Int) x.pop st).2 ∧ (∀ j m : Nat, j < t → m < l → peekV (popS (layF t s l b) (i : Int) x.pop st).2 (logN (layF t s l b) j m) = 0) := fun hx => ⟨rfl, fun j m hj hm => by
    unfold popS
    (repeat' split)
    · exact h.lg j m hj hm
    · exact lgl _ j m hj hm
    · exact lgl _ j m hj hm
    · show peekV (st.swap (i : Int) (-2) x.pop.top (topN x.pop.y (ver1 x.pop.top))) (logN (layF t s l b) j m) = 0
      rw [peekV_swap okM (okM.is (by omega) (by omega)), if_neg (fun e2 => by have := eL j m hj hm; omega)]
      exact h.lg j m hj hm⟩
  rcases hcs with hp | hp | hp | hp | hp | hp | hp | hp | hp
  · -- 1
    obtain ⟨part, gu, pop, av, adv, rc, dry, empty, gen⟩ := x
    simp only at hp
    subst hp
    have e0 : (AHd.take gt ⟨1, gu, pop, av, adv, rc, dry, empty, gen⟩).al = ⟨true, 0, pop⟩ := rfl
    rw [e0] at hal
    obtain ⟨fa, fb⟩ := h.fm.pop hn (by omega) hU hal rfl (i : Int)
    have lg := (pops (Or.inl rfl)).2
    have hws := popS_wf (F := layF t s l b) (t := (i : Int)) hU hw.pop hc
    have was := popS_was (F := layF t s l b) (th := (i : Int)) okM (by omega) hw.pop (hw.p14 (Or.inl rfl))
    have et : tkS (layF t s l b) t (i : Int) ⟨1, gu, pop, av, adv, rc, dry, empty, gen⟩ st n1 n2 = tk1 ⟨1, gu, pop, av, adv, rc, dry, empty, gen⟩ (popS (layF t s l b) (i : Int) pop st) n1 n2 := rfl
    rw [et] at hwf ⊢
    simp only at fa fb lg hws was
    generalize popS (layF t s l b) (i : Int) pop st = p at *
    unfold TakeLeft tk1 at *
    by_cases hd : p.1.dn = false
    · simp only [hd, if_true] at hwf ⊢
      refine ⟨fun _ => ⟨L, h.put hlt (fa hd) lg ⟨hwf, by show (1 : Nat) ≠ 0; decide, fun e => absurd e (by show ¬ (1 : Nat) = 3; decide)⟩⟩, fun e => absurd e (by show ¬ (1 : Nat) = 0; decide)⟩
    · have hd' : p.1.dn = true := by simpa using hd
      by_cases hs0 : toN p.1.top = -1
      · simp only [hd', hs0, if_true, Bool.true_eq_false, if_false] at hwf ⊢
        refine ⟨fun _ => ?_, fun e => absurd e (by show ¬ (2 : Nat) = 0; decide)⟩
        rcases fb hd' with ⟨_, f⟩ | ⟨a, L', ea, a0, _⟩
        · exact ⟨L, h.put hlt (f 0) lg ⟨hwf, by show (2 : Nat) ≠ 0; decide, fun e => absurd e (by show ¬ (2 : Nat) = 3; decide)⟩⟩
        · omega
      · simp only [hd', hs0, Bool.true_eq_false, if_false] at hwf ⊢
        refine ⟨fun _ => ?_, fun e => absurd e (by show ¬ (5 : Nat) = 0; decide)⟩
        rcases fb hd' with ⟨e2, _⟩ | ⟨a, L', ea, a0, a1, f⟩
        · exact absurd e2 hs0
        · refine ⟨L', h.put hlt ?_ lg ⟨hwf, by show (5 : Nat) ≠ 0; decide, fun e => absurd e (by show ¬ (5 : Nat) = 3; decide)⟩⟩
          have := f 0
          rw [← ea] at this
          exact this
  · -- 2
    obtain ⟨part, gu, pop, av, adv, rc, dry, empty, gen⟩ := x
    simp only at hp
    subst hp
    obtain ⟨ga, a, gr, e1, e2, haw, had, e3⟩ := hw.p2 rfl
    simp only at e1 e2 e3
    subst e1 e2 e3
    have et : tkS (layF t s l b) t (i : Int) ⟨2, gu, pop, some ⟨ga, 0, none⟩, some (ga, a), some (gr, rc0), dry, empty, gen⟩ st n1 n2 = tk2 ⟨2, gu, pop, some ⟨ga, 0, none⟩, some (ga, a), some (gr, rc0), dry, empty, gen⟩ ga (advS (layF t s l b) t (i : Int) a st) := rfl
    have pk : ∀ z : Int, z ≠ -1 → peekV (advS (layF t s l b) t (i : Int) a st).2 z = peekV st z := fun z hz => advS_peek okM (by omega) hz
    have mk := advS_mok (F := layF t s l b) (T := t) (t := (i : Int)) (y := a) okM
    rw [et] at hwf ⊢
    generalize advS (layF t s l b) t (i : Int) a st = p at *
    obtain ⟨x1, x2⟩ := nx_of (t := t) (s := s) (l := l) (b := b) (st := st) (st' := p.2) (fun z hz => pk z (by omega))
    have lg : ∀ j m : Nat, j < t → m < l → peekV p.2 (logN (layF t s l b) j m) = 0 := fun j m hj hm => by rw [pk _ (by rw [eL j m hj hm]; omega)]; exact h.lg j m hj hm
    unfold TakeLeft tk2 at *
    by_cases hd : p.1.dn = false
    · simp only [hd, if_true] at hwf ⊢
      exact ⟨fun _ => ⟨L, h.aside e rfl mk x1 x2 lg ⟨hwf, by show (2 : Nat) ≠ 0; decide, fun e => absurd e (by show ¬ (2 : Nat) = 3; decide)⟩⟩, fun e => absurd e (by show ¬ (2 : Nat) = 0; decide)⟩
    · have hd' : p.1.dn = true := by simpa using hd
      simp only [hd', Bool.true_eq_false, if_false] at hwf ⊢
      exact ⟨fun _ => ⟨L, h.aside e rfl mk x1 x2 lg ⟨hwf, by show (3 : Nat) ≠ 0; decide, fun _ q e => by injection e with e; subst e; exact Or.inl rfl⟩⟩, fun e => absurd e (by show ¬ (3 : Nat) = 0; decide)⟩
  · -- 3
    obtain ⟨part, gu, pop, av, adv, rc, dry, empty, gen⟩ := x
    simp only at hp
    subst hp
    obtain ⟨gr, r, e1, hrw, hrd, e2⟩ := hw.p3 rfl
    simp only at e1 e2
    subst e1 e2
    have hrp := hr3 rfl (gr, r) rfl
    obtain ⟨dn, rpart, ep, place, sl, push, ct⟩ := r
    simp only at hrd hrp
    subst hrd
    have hpl := hrw.wf.place
    have hpt := hrw.wf.lt rfl
    simp only at hpl hpt
    have et : tkS (layF t s l b) t (i : Int) ⟨3, gu, pop, av, none, some (gr, ⟨false, rpart, ep, place, sl, push, ct⟩), dry, empty, gen⟩ st n1 n2 = tk3 ⟨3, gu, pop, av, none, some (gr, ⟨false, rpart, ep, place, sl, push, ct⟩), dry, empty, gen⟩ gr (rcS (layF t s l b) (i : Int) ⟨false, rpart, ep, place, sl, push, ct⟩ st n1) n2 := rfl
    have key : ∃ z : Int, ∃ y : RcM, rcS (layF t s l b) (i : Int) ⟨false, rpart, ep, place, sl, push, ct⟩ st n1 = (y, st.load (i : Int) z) ∧ (y.part = 0 ∨ y.part = 1) := by
      rcases hrp with rfl | rfl
      · exact ⟨_, _, rfl, Or.inr rfl⟩
      · obtain ⟨k, rfl⟩ := Int.eq_ofNat_of_zero_le hpl.1
        have hz := h.lg i k hi (by omega)
        have er : rcS (layF t s l b) (i : Int) ⟨false, 1, ep, (k : Int), sl, push, ct⟩ st n1 = (if overB ep (peekV st (logN (layF t s l b) i (k : Int))) = true then ⟨false, 2, ep, (k : Int), toN (peekV st (logN (layF t s l b) i (k : Int))), push, ct⟩ else ⟨decide (layF t s l b 2 ≤ (k : Int) + 1), 1, ep, (k : Int) + 1, sl, push, ct⟩, st.load (i : Int) (logN (layF t s l b) i (k : Int))) := rfl
        rw [hz, TA.over0, if_neg (by decide)] at er
        exact ⟨_, _, er, Or.inr rfl⟩
    obtain ⟨z, y, ey, hyp⟩ := key
    rw [et, ey] at hwf
    rw [et, ey]
    obtain ⟨x1, x2⟩ := nx_of (t := t) (s := s) (l := l) (b := b) (st := st) (st' := st.load (i : Int) z) (fun a _ => peekV_load _ _ _ _)
    unfold TakeLeft tk3 at *
    by_cases hd : y.dn = false
    · simp only [hd, if_true] at hwf ⊢
      exact ⟨fun _ => ⟨L, h.aside e rfl (okM.load _ _) x1 x2 (lgl z) ⟨hwf, by show (3 : Nat) ≠ 0; decide, fun _ q e => by injection e with e; subst e; exact hyp⟩⟩, fun e => absurd e (by show ¬ (3 : Nat) = 0; decide)⟩
    · have hd' : y.dn = true := by simpa using hd
      simp only [hd', Bool.true_eq_false, if_false] at hwf ⊢
      exact ⟨fun _ => ⟨L, h.aside e rfl (okM.load _ _) x1 x2 (lgl z) ⟨hwf, by show (4 : Nat) ≠ 0; decide, fun e => absurd e (by show ¬ (4 : Nat) = 3; decide)⟩⟩, fun e => absurd e (by show ¬ (4 : Nat) = 0; decide)⟩
  · -- 4
    obtain ⟨part, gu, pop, av, adv, rc, dry, empty, gen⟩ := x
    simp only at hp
    subst hp
    have e0 : (AHd.take gt ⟨4, gu, pop, av, adv, rc, dry, empty, gen⟩).al = ⟨true, 0, pop⟩ := rfl
    rw [e0] at hal
    obtain ⟨fa, fb⟩ := h.fm.pop hn (by omega) hU hal rfl (i : Int)
    have lg := (pops (Or.inr rfl)).2
    have hws := popS_wf (F := layF t s l b) (t := (i : Int)) hU hw.pop hc
    have was := popS_was (F := layF t s l b) (th := (i : Int)) okM (by omega) hw.pop (hw.p14 (Or.inr rfl))
    have et : tkS (layF t s l b) t (i : Int) ⟨4, gu, pop, av, adv, rc, dry, empty, gen⟩ st n1 n2 = tk4 ⟨4, gu, pop, av, adv, rc, dry, empty, gen⟩ (popS (layF t s l b) (i : Int) pop st) := rfl
    rw [et] at hwf ⊢
    have hch := h.fm.ch
    simp only at fa fb lg hws was
    generalize popS (layF t s l b) (i : Int) pop st = p at *
    unfold TakeLeft tk4 at *
    by_cases hd : p.1.dn = false
    · simp only [hd, if_true] at hwf ⊢
      refine ⟨fun _ => ⟨L, h.put hlt (fa hd) lg ⟨hwf, by show (4 : Nat) ≠ 0; decide, fun e => absurd e (by show ¬ (4 : Nat) = 3; decide)⟩⟩, fun e => absurd e (by show ¬ (4 : Nat) = 0; decide)⟩
    · have hd' : p.1.dn = true := by simpa using hd
      by_cases hs0 : toN p.1.top = -1
      · simp only [hd', hs0, if_true, Bool.true_eq_false, if_false] at hwf ⊢
        refine ⟨fun e => absurd rfl e, fun _ => Or.inl ⟨trivial, trivial, trivial, fun gt' gu' => ?_⟩⟩
        rcases fb hd' with ⟨_, f⟩ | ⟨a, L', ea, a0, _⟩
        · have hL : L = [] := by
            cases L with
            | nil => rfl
            | cons a L' =>
              exfalso
              have h1 : toN (peekV st (-2)) = a := hch.1
              rw [← was hd', hs0] at h1
              have := (h.fm.rng a (by simp)).1
              omega
          rw [hL] at f
          exact h.put hlt (f 0) lg new_ok
        · omega
      · simp only [hd', hs0, Bool.true_eq_false, if_false] at hwf ⊢
        refine ⟨fun _ => ?_, fun e => absurd e (by show ¬ (5 : Nat) = 0; decide)⟩
        rcases fb hd' with ⟨e2, _⟩ | ⟨a, L', ea, a0, a1, f⟩
        · exact absurd e2 hs0
        · refine ⟨L', h.put hlt ?_ lg ⟨hwf, by show (5 : Nat) ≠ 0; decide, fun e => absurd e (by show ¬ (5 : Nat) = 3; decide)⟩⟩
          have := f 0
          rw [← ea] at this
          exact this
  all_goals
    have h5 : 5 ≤ x.part := by omega
    obtain ⟨d1, d2⟩ := hw.p5 h5
    have ea : (AHd.take gt x).al = ⟨false, 0, ⟨0, 0, toN x.pop.top, false⟩⟩ := by
      show (if x.part = 1 ∨ x.part = 4 then _ else if 5 ≤ x.part then _ else _) = _
      rw [if_neg (by omega), if_pos h5]
    have hr := (h.fm.each i _ (by rw [hal, ea])).yr rfl
    simp only at hr
  · -- 5
    have et : tkS (layF t s l b) t (i : Int) x st n1 n2 = (x.to 6 x.gen, st.store (i : Int) (intN (layF t s l b) i) (toN x.pop.top + 1)) := by
      unfold tkS
      rw [hp]
      rfl
    rw [et] at hwf ⊢
    have pk : ∀ z : Int, z ≠ intN (layF t s l b) i → peekV (st.store (i : Int) (intN (layF t s l b) i) (toN x.pop.top + 1)) z = peekV st z := fun z hz => by rw [peekV_store okM (okM.is (by rw [eI]; omega) (by rw [eI, eN]; omega)), if_neg hz]
    obtain ⟨x1, x2⟩ := nx_of (t := t) (s := s) (l := l) (b := b) (st := st) (st' := st.store (i : Int) (intN (layF t s l b) i) (toN x.pop.top + 1)) (fun z hz => pk z (by rw [eI]; omega))
    exact ⟨fun _ => ⟨L, h.aside e (by rw [ea]; rfl) (okM.store _ _ _) x1 x2 (fun j m hj hm => by rw [pk _ (by rw [eL j m hj hm, eI]; omega)]; exact h.lg j m hj hm) ⟨hwf, by show (6 : Nat) ≠ 0; decide, fun e => absurd e (by show ¬ (6 : Nat) = 3; decide)⟩⟩, fun e => absurd e (by show ¬ (6 : Nat) = 0; decide)⟩
  · -- 6
    have et : tkS (layF t s l b) t (i : Int) x st n1 n2 = (x.to 7 x.gen, st.flush (i : Int) (intN (layF t s l b) i)) := by
      unfold tkS
      rw [hp]
      rfl
    rw [et] at hwf ⊢
    obtain ⟨x1, x2⟩ := nx_of (t := t) (s := s) (l := l) (b := b) (st := st) (st' := st.flush (i : Int) (intN (layF t s l b) i)) (fun z _ => peekV_flush _ _ _ _)
    exact ⟨fun _ => ⟨L, h.aside e (by rw [ea]; rfl) (okM.flush _ _) x1 x2 (fun j m hj hm => by rw [peekV_flush]; exact h.lg j m hj hm) ⟨hwf, by show (7 : Nat) ≠ 0; decide, fun e => absurd e (by show ¬ (7 : Nat) = 3; decide)⟩⟩, fun e => absurd e (by show ¬ (7 : Nat) = 0; decide)⟩
  · -- 7
    have et : tkS (layF t s l b) t (i : Int) x st n1 n2 = (x.to 8 x.gen, st.fence (i : Int)) := by
      unfold tkS
      rw [hp]
      rfl
    rw [et] at hwf ⊢
    obtain ⟨x1, x2⟩ := nx_of (t := t) (s := s) (l := l) (b := b) (st := st) (st' := st.fence (i : Int)) (fun z _ => peekV_fence _ _ _)
    exact ⟨fun _ => ⟨L, h.aside e (by rw [ea]; rfl) (okM.fence _) x1 x2 (fun j m hj hm => by rw [peekV_fence]; exact h.lg j m hj hm) ⟨hwf, by show (8 : Nat) ≠ 0; decide, fun e => absurd e (by show ¬ (8 : Nat) = 3; decide)⟩⟩, fun e => absurd e (by show ¬ (8 : Nat) = 0; decide)⟩
  · -- 8
    have et : tkS (layF t s l b) t (i : Int) x st n1 n2 = (x.to 9 (peekV st (genN (layF t s l b) (toN x.pop.top))), st.load (i : Int) (genN (layF t s l b) (toN x.pop.top))) := by
      unfold tkS
      rw [hp]
      rfl
    rw [et] at hwf ⊢
    obtain ⟨x1, x2⟩ := nx_of (t := t) (s := s) (l := l) (b := b) (st := st) (st' := st.load (i : Int) (genN (layF t s l b) (toN x.pop.top))) (fun z _ => peekV_load _ _ _ _)
    exact ⟨fun _ => ⟨L, h.aside e (by rw [ea]; rfl) (okM.load _ _) x1 x2 (lgl _) ⟨hwf, by show (9 : Nat) ≠ 0; decide, fun e => absurd e (by show ¬ (9 : Nat) = 3; decide)⟩⟩, fun e => absurd e (by show ¬ (9 : Nat) = 0; decide)⟩
  · -- 9
    obtain ⟨k, hk⟩ := Int.eq_ofNat_of_zero_le hr.1
    have eG := TA.gen_at (t := t) (s := s) (k := k) hb0 hb8 hl0 hl8 (by omega)
    rw [← hk] at eG
    have et : tkS (layF t s l b) t (i : Int) x st n1 n2 = (x.to 0 x.gen, st.store (i : Int) (genN (layF t s l b) (toN x.pop.top)) (IntKind.u64.wrap (x.gen + 1))) := by
      unfold tkS
      rw [hp]
      rfl
    rw [et] at hwf ⊢
    have pk : ∀ z : Int, z ≠ genN (layF t s l b) (toN x.pop.top) → peekV (st.store (i : Int) (genN (layF t s l b) (toN x.pop.top)) (IntKind.u64.wrap (x.gen + 1))) z = peekV st z := fun z hz => by rw [peekV_store okM (okM.is (by rw [eG]; omega) (by rw [eG, eN]; omega)), if_neg hz]
    obtain ⟨x1, x2⟩ := nx_of (t := t) (s := s) (l := l) (b := b) (st := st) (st' := st.store (i : Int) (genN (layF t s l b) (toN x.pop.top)) (IntKind.u64.wrap (x.gen + 1))) (fun z hz => pk z (by rw [eG]; omega))
    exact ⟨fun e => absurd rfl e, fun _ => Or.inr ⟨toN x.pop.top, L, rfl, hr.1, hr.2, fun gg gu => h.aside e (by rw [ea]; rfl) (okM.store _ _ _) x1 x2 (fun j m hj hm => by rw [pk _ (by rw [eL j m hj hm, eG]; omega)]; exact h.lg j m hj hm) (give_ok0 hr.1 (by omega))⟩⟩
/-- What a step of a Give at thread i leaves. -/
theorem FMA.give {hs : List AHd} {L : List Int} {st : MSt} {i gg gu : Nat} {x : GvM} {a : Int} (h : FMA t s l b n hs L st) (hf : FewC t s l b) (hn : n ≤ 1000) (hU : ∀ a, W64 (peekV st a)) {c : Int} (hc : CalmN c st) (e : hs[i]? = some (.give gg gu x a)) (hi : i < t) :
    ((gvS (layF t s l b) (i : Int) x st).1.push.dn = false → FMA t s l b (n + 1) (hs.set i (.give gg gu (gvS (layF t s l b) (i : Int) x st).1 a)) L (gvS (layF t s l b) (i : Int) x st).2) ∧
    ((gvS (layF t s l b) (i : Int) x st).1.push.dn = true → ∃ L', ∀ gt gu', FMA t s l b (n + 1) (hs.set i (.take gt ⟨1, gu', pm0, none, none, none, false, 0, 0⟩)) L' (gvS (layF t s l b) (i : Int) x st).2) := by
  obtain ⟨hb0, hb8, hl0, hl8, hs1⟩ := hf
  obtain ⟨hw, hy, hd, ha⟩ := h.ok i _ e
  have hlt : i < hs.length := (List.getElem?_eq_some_iff.1 e).1
  have okM : MOk (2 + t + s) (wN t s l b) st := h.fm.ok
  have eI := TA.int_at (s := s) (l := l) hb0 hb8 hi
  have eN := TA.wN_at (t := t) (s := s) hb0 hb8 hl0 hl8
  have eL : ∀ j m : Nat, j < t → m < l → logN (layF t s l b) j m = 48 + 8 * (t : Int) + 8 * (j : Int) + (m : Int) := fun j m hj hm => TA.log_at hb0 hb8 hl0 hl8 hj hm
  have hal := h.al_at e
  obtain ⟨dropped, push⟩ := x
  simp only at hw hy hd
  cases dropped
  · have et : gvS (layF t s l b) (i : Int) ⟨false, push⟩ st = (⟨true, push⟩, st.store (i : Int) (intN (layF t s l b) i) 0) := by
      unfold gvS
      rw [if_neg (by rw [hd]; decide)]
      rfl
    rw [et]
    have pk : ∀ z : Int, z ≠ intN (layF t s l b) i → peekV (st.store (i : Int) (intN (layF t s l b) i) 0) z = peekV st z := fun z hz => by rw [peekV_store okM (okM.is (by rw [eI]; omega) (by rw [eI, eN]; omega)), if_neg hz]
    obtain ⟨x1, x2⟩ := nx_of (t := t) (s := s) (l := l) (b := b) (st := st) (st' := st.store (i : Int) (intN (layF t s l b) i) 0) (fun z hz => pk z (by rw [eI]; omega))
    exact ⟨fun _ => h.aside e rfl (okM.store _ _ _) x1 x2 (fun j m hj hm => by rw [pk _ (by rw [eL j m hj hm, eI]; omega)]; exact h.lg j m hj hm) ⟨hw, hy, hd, ha⟩, fun e2 => by rw [hd] at e2; cases e2⟩
  · have et : gvS (layF t s l b) (i : Int) ⟨true, push⟩ st = (⟨true, (pushS (layF t s l b) (i : Int) push st).1⟩, (pushS (layF t s l b) (i : Int) push st).2) := by
      unfold gvS
      rw [if_neg (by rw [hd]; decide)]
      rfl
    rw [et]
    have e0 : (AHd.give gg gu ⟨true, push⟩ a).al = ⟨false, 0, push⟩ := rfl
    rw [e0] at hal
    have hr := (h.fm.each i _ hal).yr rfl
    simp only at hr
    obtain ⟨fa, fb⟩ := h.fm.push hn (by omega) hU hal rfl (i : Int)
    have hws := pushS_wf (F := layF t s l b) (t := (i : Int)) hU hw hc
    have hyy := pushS_y (F := layF t s l b) (t := (i : Int)) (y := push) (s := st)
    have ra := aft_at (t := t) (s := s) (l := l) (b := b) (n := push.y) (by omega) hr.2
    have lg : ∀ j m : Nat, j < t → m < l → peekV (pushS (layF t s l b) (i : Int) push st).2 (logN (layF t s l b) j m) = 0 := fun j m hj hm => by
      unfold pushS
      (repeat' split)
      · exact h.lg j m hj hm
      · show peekV (st.load (i : Int) (-2)) _ = 0
        rw [peekV_load]
        exact h.lg j m hj hm
      · show peekV (st.store (i : Int) (aft (layF t s l b) push.y) (toN push.top + 1)) _ = 0
        rw [ra, peekV_store okM (okM.is (by omega) (by omega)), if_neg (by rw [eL j m hj hm]; omega)]
        exact h.lg j m hj hm
      · show peekV (st.swap (i : Int) (-2) push.top (topN push.y (ver1 push.top))) (logN (layF t s l b) j m) = 0
        rw [peekV_swap okM (okM.is (by omega) (by omega)), if_neg (fun e2 => by have := eL j m hj hm; omega)]
        exact h.lg j m hj hm
    simp only at fa fb
    generalize pushS (layF t s l b) (i : Int) push st = p at *
    exact ⟨fun hd2 => h.put hlt (fa hd2) lg ⟨hws.1, hyy.trans hy, hd2, ha⟩, fun hd2 => ⟨_, fun gt gu' => h.put hlt (fb hd2 0) lg new_ok⟩⟩
end
end Go.Proofs.YtfjfeomkmhbpbaaGreat


/- Several Takes and Gives between one another: how they lie in memory, and what a step of one leaves; whether each slot is free, or held by one. Conditions: those that each theorem names. -/
namespace Go.Proofs.YtfjfeomkmhbpbaaGreat
open Go.ChangeShapes Go.WideShapes Go.ChangeAt Go.RowKit
set_option linter.unusedVariables false
/-- How often each slot has been met. -/
def cntV (s : Nat) (M : List Int) : List Value := (List.range s).map fun (i : Nat) => .int .i64 ((M.count (i : Int) : Nat) : Int)
theorem cntV_nil (s : Nat) : cntV s [] = List.replicate s (.int .i64 0) := by
  apply List.ext_getElem
  · simp [cntV]
  · intro i h1 h2
    simp [cntV]
theorem cntV_at {s p : Nat} {M : List Int} (h : p < s) : (cntV s M)[p]? = some (.int .i64 ((M.count (p : Int) : Nat) : Int)) := by
  unfold cntV
  rw [List.getElem?_map, List.getElem?_range h]
  rfl
theorem cntV_on (s p : Nat) (M : List Int) : (cntV s M).set p (.int .i64 (((M.count (p : Int) : Nat) : Int) + 1)) = cntV s (M ++ [(p : Int)]) := by
  apply List.ext_getElem
  · simp [cntV]
  · intro i h1 h2
    rw [List.getElem_set]
    simp only [cntV, List.getElem_map, List.getElem_range, List.count_append, List.count_singleton]
    by_cases e : p = i
    · subst e
      simp
    · rw [if_neg e, if_neg (by simp; omega)]
      simp
theorem cntV_neg (s : Nat) (M : List Int) {z : Int} (hz : z < 0) : cntV s (M ++ [z]) = cntV s M := by
  apply List.ext_getElem
  · simp [cntV]
  · intro i h1 h2
    simp only [cntV, List.getElem_map, List.getElem_range, List.count_append, List.count_singleton]
    rw [if_neg (by simp; omega)]
    simp
theorem take_on {L : List Int} {k : Nat} (h : k < L.length) : L.take (k + 1) = L.take k ++ [L.getD k 0] := by
  rw [List.take_add_one, List.getD_eq_getElem?_getD, List.getElem?_eq_getElem h]
  rfl
theorem make_ints9 (n : Nat) (hc : n ≤ 1000000000) (W : World) :
    (Instr.makeSlice 98 (.int .i64 (n : Int)) (.int .i64 (n : Int))).run Tryz.prog W = .ok (.slice (some ⟨W.heap.size, 0, none⟩) n n) (W.alloc (.cells (madeCells #[.int .i64 0] n) 3)) := by
  obtain ⟨i, hi, hz0, hz1, hz2⟩ := info_one int_info
  have h := run_makeInts (k := .u8) Tryz.underlying98 hi hz0 hz1 n n (Nat.le_refl _) (by rw [hz2]; omega) (by unfold maxLen; omega) W
  rw [Nat.mul_one] at h
  exact h
theorem made_ints9 (n : Nat) : madeCells #[.int .i64 0] n = (List.replicate n (Value.int .i64 0)).toArray := by
  apply Array.ext
  · simp [madeCells]
  · intro i h1 h2
    simp [madeCells, Nat.mod_one]
/-- A Take's own blocks. -/
structure TkB (w : World) (gt gl : Nat) (t : Int) (x : TkM) : Prop where
  blk : Blk w gt 170 (x.cells gl gt t)
  pop : Blk w x.gu 245 (x.pop.cells gl t)
  adv : ∀ q, x.adv = some q → Blk w q.1 272 (q.2.cells gl t)
  rc : ∀ q, x.rc = some q → Blk w q.1 230 (q.2.cells gl t)
  push : ∀ q p, x.rc = some q → q.2.push = some p → Blk w p.1 237 (p.2.cells gl t)
def AHd.ownB : AHd → Nat → Prop
  | .idle, _ => False
  | .take gt x, b => b = gt ∨ x.ownB b
  | .give gg gu _ _, b => b = gg ∨ b = gu
def AHd.cells : AHd → List Value
  | .idle => [.pointer none, .pointer none]
  | .take gt _ => [.pointer (some ⟨gt, 0, none⟩), .pointer none]
  | .give gg _ _ _ => [.pointer none, .pointer (some ⟨gg, 0, none⟩)]
theorem AHd.cells_len (h : AHd) : h.cells.length = 2 := by cases h <;> rfl
def AHd.At (w : World) (gl : Nat) (t : Int) : AHd → Prop
  | .idle => True
  | .take gt x => TkB w gt gl t x
  | .give gg gu x a => Blk w gg 164 (gvCells gl gu t a x.dropped) ∧ Blk w gu 237 (x.push.cells gl t)
theorem AHd.At.kept {w w' : World} {gl : Nat} {t : Int} {h : AHd} (a : h.At w gl t) (k : ∀ b, h.ownB b → w'.heap[b]? = w.heap[b]?) : h.At w' gl t := by
  cases h with
  | idle => trivial
  | give gg gu x y => exact ⟨(k gg (Or.inl rfl)).trans a.1, (k gu (Or.inr rfl)).trans a.2⟩
  | take gt x => exact ⟨(k gt (Or.inl rfl)).trans a.blk, (k x.gu (Or.inr (Or.inl rfl))).trans a.pop, fun q e => (k q.1 (Or.inr (Or.inr (Or.inl ⟨q, e, rfl⟩)))).trans (a.adv q e), fun q e => (k q.1 (Or.inr (Or.inr (Or.inr ⟨q, e, Or.inl rfl⟩)))).trans (a.rc q e), fun q p e ep => (k p.1 (Or.inr (Or.inr (Or.inr ⟨q, e, Or.inr ⟨p, ep, rfl⟩⟩)))).trans (a.push q p e ep)⟩
structure AMAt (w1 w : World) (gm : Nat) (dv pv : Value) (gl gh : Nat) (F : Nat → Int) (rows : List (List Value)) (hs : List AHd) (s : MSt) : Prop where
  m : IsMem (fun q => q = gl ∨ q = gh ∨ ∃ (i : Nat) (h : AHd), hs[i]? = some h ∧ h.ownB q) w w1 w gm dv pv s
  l : Blk w gl 205 (cellsF F)
  h : Blk w gh 96 rows.flatten
  a : ∀ (i : Nat) (h : AHd), hs[i]? = some h → h.At w gl (i : Int)
  o : ∀ (i : Nat) (h : AHd) (b : Nat), hs[i]? = some h → h.ownB b → b ≠ gl ∧ b ≠ gh ∧ w1.heap.size ≤ b
  d : ∀ (i j : Nat) (h h' : AHd) (b : Nat), hs[i]? = some h → hs[j]? = some h' → h.ownB b → h'.ownB b → i = j
  lh : gl ≠ gh
  gh0 : w1.heap.size ≤ gh
section
variable {w1 w w' : World} {gm gl gh : Nat} {dv pv : Value} {F : Nat → Int} {rows : List (List Value)} {hs : List AHd} {s s' : MSt}
theorem AMAt.lt (h : AMAt w1 w gm dv pv gl gh F rows hs s) {i : Nat} {x : AHd} {b : Nat} (e : hs[i]? = some x) (hb : x.ownB b) : b < w.heap.size := h.m.lt.2 b (Or.inr (Or.inr ⟨i, x, e, hb⟩))
theorem AMAt.ext (h : AMAt w1 w gm dv pv gl gh F rows hs s) (x : Ext w w') : AMAt w1 w' gm dv pv gl gh F rows hs s :=
  ⟨(h.m.ext x).here, h.l.ext x, h.h.ext x, fun i y e => (h.a i y e).kept (fun b hb => x.block b (h.lt e hb)), h.o, h.d, h.lh, h.gh0⟩
theorem set_or {i j : Nat} {h' y : AHd} (hi : i < hs.length) (e : (hs.set i h')[j]? = some y) : (j = i ∧ y = h') ∨ (j ≠ i ∧ hs[j]? = some y) := by
  rw [set_get _ _ _ _ hi] at e
  by_cases ej : j = i
  · rw [if_pos ej] at e
    injection e with e
    exact Or.inl ⟨ej, e.symm⟩
  · rw [if_neg ej] at e
    exact Or.inr ⟨ej, e⟩
/-- A thread has new machines. -/
theorem AMAt.new (h : AMAt w1 w gm dv pv gl gh F rows hs s) (x : Ext w w') {i : Nat} {h' : AHd} (hi : i < hs.length) (ha : h'.At w' gl (i : Int)) (ho : ∀ b, h'.ownB b → w.heap.size ≤ b ∧ b < w'.heap.size) : AMAt w1 w' gm dv pv gl gh F rows (hs.set i h') s := by
  have hgl := h.l.lt
  have hgh := h.h.lt
  have hw1 := h.m.lt.1.size
  refine ⟨h.m.hold x (fun b hb => ?_), h.l.ext x, h.h.ext x, fun j y e => ?_, fun j y b e hb => ?_, fun j k y z b e1 e2 b1 b2 => ?_, h.lh, h.gh0⟩
  · rcases hb with e | e | ⟨j, y, e, hb⟩
    · rw [e]; exact ⟨Nat.lt_of_lt_of_le hgl x.size, Or.inl (Or.inl rfl)⟩
    · rw [e]; exact ⟨Nat.lt_of_lt_of_le hgh x.size, Or.inl (Or.inr (Or.inl rfl))⟩
    · rcases set_or hi e with ⟨_, ey⟩ | ⟨_, ey⟩
      · rw [ey] at hb
        exact ⟨(ho b hb).2, Or.inr (ho b hb).1⟩
      · exact ⟨Nat.lt_of_lt_of_le (h.lt ey hb) x.size, Or.inl (Or.inr (Or.inr ⟨j, y, ey, hb⟩))⟩
  · rcases set_or hi e with ⟨ej, ey⟩ | ⟨_, ey⟩
    · rw [ej, ey]; exact ha
    · exact (h.a j y ey).kept (fun b hb => x.block b (h.lt ey hb))
  · rcases set_or hi e with ⟨ej, ey⟩ | ⟨_, ey⟩
    · rw [ey] at hb
      have := (ho b hb).1
      exact ⟨by omega, by omega, by omega⟩
    · exact h.o j y b ey hb
  · rcases set_or hi e1 with ⟨j1, y1⟩ | ⟨j1, y1⟩ <;> rcases set_or hi e2 with ⟨j2, y2⟩ | ⟨j2, y2⟩
    · omega
    · rw [y1] at b1
      have := (ho b b1).1
      have := h.lt y2 b2
      omega
    · rw [y2] at b2
      have := (ho b b2).1
      have := h.lt y1 b1
      omega
    · exact h.d j k y z b y1 y2 b1 b2
theorem AMAt.turn (h : AMAt w1 w gm dv pv gl gh F rows hs s) (f : Fr (fun b => b = gh) w w') {rows' : List (List Value)} (hb : Blk w' gh 96 rows'.flatten) : AMAt w1 w' gm dv pv gl gh F rows' hs s := by
  have kp : ∀ b, b ≠ gh → b < w.heap.size → w'.heap[b]? = w.heap[b]? := fun b hb hlt => f.block b hlt hb
  exact ⟨h.m.turn f (fun b e => Or.inr (Or.inl e)) (fun b e => by rw [e]; exact h.gh0), (kp gl h.lh h.l.lt).trans h.l, hb, fun i y e => (h.a i y e).kept (fun b hb => kp b (h.o i y b e hb).2.1 (h.lt e hb)), h.o, h.d, h.lh, h.gh0⟩
theorem AMAt.put (h : AMAt w1 w gm dv pv gl gh F rows hs s) (hl : ∀ r ∈ rows, r.length = 2) {i f : Nat} {r : List Value} (hf : f < 2) (e : rows[i]? = some r) (v : Value) :
    AMAt w1 (w.setCell ⟨gh, i * 2 + f, none⟩ v) gm dv pv gl gh F (rows.set i (r.set f v)) hs s :=
  h.turn (Fr.setCell (S := fun b => b = gh) (p := ⟨gh, i * 2 + f, none⟩) (Fr.refl _ w) (Or.inl rfl) _) (by
    rw [← flat_set rows i f v r hl hf e]
    exact h.h.set (i * 2 + f) v)
/-- What thread i's Take must leave as it is. -/
def Qi (gl gh : Nat) (hs : List AHd) (i gt : Nat) (q : Nat) : Prop := q = gl ∨ q = gh ∨ q = gt ∨ ∃ (j : Nat) (h : AHd), j ≠ i ∧ hs[j]? = some h ∧ h.ownB q
theorem AMAt.toTk (h : AMAt w1 w gm dv pv gl gh F rows hs s) {i gt : Nat} {x : TkM} (e : hs[i]? = some (.take gt x)) : TkAt (Qi gl gh hs i gt) w1 w gm gt gl dv pv (i : Int) x s := by
  have ha := h.a i _ e
  have nq : ∀ b, x.ownB b → b ≠ gt → ¬ Qi gl gh hs i gt b ∧ w1.heap.size ≤ b := fun b hb hne => by
    obtain ⟨o1, o2, o3⟩ := h.o i _ b e (Or.inr hb)
    refine ⟨fun hq => ?_, o3⟩
    rcases hq with e1 | e1 | e1 | ⟨j, y, nj, ej, hy⟩
    · exact o1 e1
    · exact o2 e1
    · exact hne e1
    · exact nj (h.d j i y _ b ej e hy (Or.inr hb))
  refine ⟨h.m.reQ (fun b hb => ?_), ha.blk, ⟨nq _ (Or.inl rfl) (ha.pop.ne ha.blk (by decide)), ha.pop⟩, fun q eq => ⟨nq _ (Or.inr (Or.inl ⟨q, eq, rfl⟩)) ((ha.adv q eq).ne ha.blk (by decide)), ha.adv q eq⟩, fun q eq => ⟨nq _ (Or.inr (Or.inr ⟨q, eq, Or.inl rfl⟩)) ((ha.rc q eq).ne ha.blk (by decide)), ha.rc q eq⟩, fun q p eq ep => ⟨nq _ (Or.inr (Or.inr ⟨q, eq, Or.inr ⟨p, ep, rfl⟩⟩)) ((ha.push q p eq ep).ne ha.blk (by decide)), ha.push q p eq ep⟩⟩
  rcases hb with (e1 | e1 | e1 | ⟨j, y, _, ej, hy⟩) | hb
  · exact Or.inl e1
  · exact Or.inr (Or.inl e1)
  · exact Or.inr (Or.inr ⟨i, _, e, Or.inl e1⟩)
  · exact Or.inr (Or.inr ⟨j, y, ej, hy⟩)
  · exact Or.inr (Or.inr ⟨i, _, e, Or.inr hb⟩)
theorem TkAt.fresh {Q : Nat → Prop} {w0 : World} {gt : Nat} {t : Int} {x : TkM} (h : TkAt Q w0 w gm gt gl dv pv t x s) {b : Nat} (hb : x.ownB b) : ¬ Q b ∧ w0.heap.size ≤ b := by
  rcases hb with e | ⟨q, eq, e⟩ | ⟨q, eq, e | ⟨p, ep, e⟩⟩
  · rw [e]; exact h.pop.1
  · rw [e]; exact (h.adv q eq).1
  · rw [e]; exact (h.rc q eq).1
  · rw [e]; exact (h.push q p eq ep).1
theorem AMAt.ofTk (h : AMAt w1 w gm dv pv gl gh F rows hs s) {i gt : Nat} {x x' : TkM} (e : hs[i]? = some (.take gt x)) (t' : TkAt (Qi gl gh hs i gt) w1 w' gm gt gl dv pv (i : Int) x' s') (k : ∀ b, Qi gl gh hs i gt b → b ≠ gt → w'.heap[b]? = w.heap[b]?) : AMAt w1 w' gm dv pv gl gh F rows (hs.set i (.take gt x')) s' := by
  have hi := (List.getElem?_eq_some_iff.1 e).1
  obtain ⟨g1, g2, g3⟩ := h.o i _ gt e (Or.inl rfl)
  refine ⟨t'.mem.reQ (fun b hb => ?_), (k gl (Or.inl rfl) (fun e1 => g1 e1.symm)).trans h.l, (k gh (Or.inr (Or.inl rfl)) (fun e1 => g2 e1.symm)).trans h.h, fun j y ey => ?_, fun j y b ey hb => ?_, fun j j' y z b e1 e2 b1 b2 => ?_, h.lh, h.gh0⟩
  · rcases hb with e1 | e1 | ⟨j, y, ey, hy⟩
    · exact Or.inl (Or.inl e1)
    · exact Or.inl (Or.inr (Or.inl e1))
    · rcases set_or hi ey with ⟨_, e3⟩ | ⟨e2, e3⟩
      · rw [e3] at hy
        rcases hy with hy | hy
        · exact Or.inl (Or.inr (Or.inr (Or.inl hy)))
        · exact Or.inr hy
      · exact Or.inl (Or.inr (Or.inr (Or.inr ⟨j, y, e2, e3, hy⟩)))
  · rcases set_or hi ey with ⟨ej, e3⟩ | ⟨e2, e3⟩
    · rw [ej, e3]
      exact ⟨t'.blk, t'.pop.2, fun q eq => (t'.adv q eq).2, fun q eq => (t'.rc q eq).2, fun q p eq ep => (t'.push q p eq ep).2⟩
    · exact (h.a j y e3).kept (fun b hb => k b (Or.inr (Or.inr (Or.inr ⟨j, y, e2, e3, hb⟩))) (fun eb => e2 (h.d j i y _ b e3 e hb (Or.inl eb))))
  · rcases set_or hi ey with ⟨ej, e3⟩ | ⟨e2, e3⟩
    · rw [e3] at hb
      rcases hb with hb | hb
      · rw [hb]; exact ⟨g1, g2, g3⟩
      · obtain ⟨f1, f2⟩ := t'.fresh hb
        exact ⟨fun e1 => f1 (Or.inl e1), fun e1 => f1 (Or.inr (Or.inl e1)), f2⟩
    · exact h.o j y b e3 hb
  · rcases set_or hi e1 with ⟨j1, y1⟩ | ⟨j1, y1⟩ <;> rcases set_or hi e2 with ⟨j2, y2⟩ | ⟨j2, y2⟩
    · omega
    · rw [y1] at b1
      rcases b1 with b1 | b1
      · have := h.d j' i z _ b y2 e b2 (Or.inl b1)
        omega
      · exact ((t'.fresh b1).1 (Or.inr (Or.inr (Or.inr ⟨j', z, j2, y2, b2⟩)))).elim
    · rw [y2] at b2
      rcases b2 with b2 | b2
      · have := h.d j i y _ b y1 e b1 (Or.inl b2)
        omega
      · exact ((t'.fresh b2).1 (Or.inr (Or.inr (Or.inr ⟨j, y, j1, y1, b1⟩)))).elim
    · exact h.d j j' y z b y1 y2 b1 b2
/-- A step of a Give of thread i. -/
theorem AMAt.ofGive (h : AMAt w1 w gm dv pv gl gh F rows hs s) {i gg gu : Nat} {x x' : GvM} {a : Int} (e : hs[i]? = some (.give gg gu x a))
    (m : IsMem (fun q => q = gl ∨ q = gh ∨ ∃ (i : Nat) (h : AHd), hs[i]? = some h ∧ h.ownB q) w' w1 w' gm dv pv s') (bg : Blk w' gg 164 (gvCells gl gu (i : Int) a x'.dropped)) (bu : Blk w' gu 237 (x'.push.cells gl (i : Int)))
    (k : ∀ b, (b = gl ∨ b = gh ∨ ∃ (i : Nat) (h : AHd), hs[i]? = some h ∧ h.ownB b) → b ≠ gg → b ≠ gu → w'.heap[b]? = w.heap[b]?) : AMAt w1 w' gm dv pv gl gh F rows (hs.set i (.give gg gu x' a)) s' := by
  have hi := (List.getElem?_eq_some_iff.1 e).1
  obtain ⟨g1, g2, g3⟩ := h.o i _ gg e (Or.inl rfl)
  obtain ⟨u1, u2, u3⟩ := h.o i _ gu e (Or.inr rfl)
  have same : ∀ {j : Nat} {y : AHd} {b : Nat}, (hs.set i (.give gg gu x' a))[j]? = some y → y.ownB b → ∃ z, hs[j]? = some z ∧ z.ownB b := fun {j y b} ey hb => by
    rcases set_or hi ey with ⟨ej, e3⟩ | ⟨_, e3⟩
    · rw [e3] at hb
      exact ⟨.give gg gu x a, by rw [ej]; exact e, hb⟩
    · exact ⟨y, e3, hb⟩
  refine ⟨m.reQ (fun b hb => ?_), (k gl (Or.inl rfl) (fun e1 => g1 e1.symm) (fun e1 => u1 e1.symm)).trans h.l, (k gh (Or.inr (Or.inl rfl)) (fun e1 => g2 e1.symm) (fun e1 => u2 e1.symm)).trans h.h, fun j y ey => ?_, fun j y b ey hb => ?_, fun j j' y z b e1 e2 b1 b2 => ?_, h.lh, h.gh0⟩
  · rcases hb with e1 | e1 | ⟨j, y, ey, hy⟩
    · exact Or.inl e1
    · exact Or.inr (Or.inl e1)
    · obtain ⟨z, ez, hz⟩ := same ey hy
      exact Or.inr (Or.inr ⟨j, z, ez, hz⟩)
  · rcases set_or hi ey with ⟨ej, e3⟩ | ⟨e2, e3⟩
    · rw [ej, e3]
      exact ⟨bg, bu⟩
    · exact (h.a j y e3).kept (fun b hb => k b (Or.inr (Or.inr ⟨j, y, e3, hb⟩)) (fun eb => e2 (h.d j i y _ b e3 e hb (Or.inl eb))) (fun eb => e2 (h.d j i y _ b e3 e hb (Or.inr eb))))
  · obtain ⟨z, ez, hz⟩ := same ey hb
    exact h.o j z b ez hz
  · obtain ⟨y', ey, hy⟩ := same e1 b1
    obtain ⟨z', ez, hz⟩ := same e2 b2
    exact h.d j j' y' z' b ey ez hy hz
end
theorem flat2 {rows : List (List Value)} {i f : Nat} {r : List Value} (hl : ∀ r ∈ rows, r.length = 2) (hf : f < 2) (e : rows[i]? = some r) : rows.flatten[i * 2 + f]? = r[f]? := by
  rw [flat_get rows i f hl hf, e]
  rfl
section
variable {w1 w : World} {gm gl gh : Nat} {dv pv : Value} {F : Nat → Int} {rows : List (List Value)} {hs : List AHd} {st : MSt} {t l : Nat}
set_option maxRecDepth 100000 in
set_option maxHeartbeats 4000000 in
theorem handHolds_ok (h : AMAt w1 w gm dv pv gl gh F rows hs st) {i : Nat} {x : AHd} (e : hs[i]? = some x) (ok : x.Ok t l) (W : World) (xw : Ext w W) :
    Calls Tryz.prog 123 #[.agg x.cells.toArray] W fun e w' => e = .returned (.int .i64 x.val) ∧ Ext W w' := by
  have hA := h.ext xw
  cases x with
  | idle => exact ok.elim
  | give gg gu y a =>
    have hat := hA.a i _ e
    have x0 := (Ext.refl W).alloc (.cells #[.pointer none, .pointer (some ⟨gg, 0, none⟩)] 96)
    have b0 := Blk.new W 96 [.pointer none, .pointer (some ⟨gg, 0, none⟩)]
    have HH := Lib.hid (giveHolds_ok (W.alloc (.cells #[.pointer none, .pointer (some ⟨gg, 0, none⟩)] 96)) gg gu y.push.dn a ((hat.1.ext x0).cell 2) ((hat.1.ext x0).cell 4) ((hat.2.ext x0).cell 4))
    have HD : Hid (y.push.dn = false) := Lib.hid ok.2.2.1
    rw [HD.out, if_neg (by decide)] at HH
    have X0 := Lib.hid x0
    have c0 : (W.alloc (.cells #[.pointer none, .pointer (some ⟨gg, 0, none⟩)] 96)).cell? ⟨W.heap.size, 0, none⟩ = some (.pointer none) := b0.cell 0
    have c1 : (W.alloc (.cells #[.pointer none, .pointer (some ⟨gg, 0, none⟩)] 96)).cell? ⟨W.heap.size, 1, none⟩ = some (.pointer (some ⟨gg, 0, none⟩)) := b0.cell 1
    clear hat x0 b0 hA h
    go_enter Tryz.func123, Tryz.ntmps123
    go_upto_region 1 with fail
    change Code.wp _ _ _ _ (W.alloc (.cells #[.pointer none, .pointer (some ⟨gg, 0, none⟩)] 96))
    generalize W.alloc (.cells #[.pointer none, .pointer (some ⟨gg, 0, none⟩)] 96) = W0 at *
    go_wp2_with fail
    refine HH.out.mono ?_
    rintro e w' ⟨rfl, rfl⟩
    go_wp2_with fail
    go_ret
    exact ⟨rfl, X0.out⟩
  | take gt y =>
    have x0 := (Ext.refl W).alloc (.cells #[.pointer (some ⟨gt, 0, none⟩), .pointer none] 96)
    have b0 := Blk.new W 96 [.pointer (some ⟨gt, 0, none⟩), .pointer none]
    have HH := Lib.hid (tkHolds_ok ((hA.ext x0).toTk e) ok.1)
    have X0 := Lib.hid x0
    have c0 : (W.alloc (.cells #[.pointer (some ⟨gt, 0, none⟩), .pointer none] 96)).cell? ⟨W.heap.size, 0, none⟩ = some (.pointer (some ⟨gt, 0, none⟩)) := b0.cell 0
    have c1 : (W.alloc (.cells #[.pointer (some ⟨gt, 0, none⟩), .pointer none] 96)).cell? ⟨W.heap.size, 1, none⟩ = some (.pointer none) := b0.cell 1
    clear x0 b0 hA h
    go_enter Tryz.func123, Tryz.ntmps123
    go_upto_region 1 with fail
    change Code.wp _ _ _ _ (W.alloc (.cells #[.pointer (some ⟨gt, 0, none⟩), .pointer none] 96))
    generalize W.alloc (.cells #[.pointer (some ⟨gt, 0, none⟩), .pointer none] 96) = W0 at *
    go_wp2_with fail
    refine HH.out.mono ?_
    rintro e w' ⟨rfl, x1⟩
    have X1 := Lib.hid (X0.out.trans x1)
    clear x1
    go_wp2_with fail
    go_ret
    exact ⟨rfl, X1.out⟩
end
theorem row_atB {w : World} {B : Nat} {v : Value} {zs : List Int} (h : Row w B 3 .i64 v zs) : ∃ A c, v = .slice A zs.length c ∧ Ints w .i64 A zs ∧ zs.length ≤ 9223372036854775807 := by
  obtain ⟨A, c, e, h1, h2, hI, _, _⟩ := RowN.form (RowN.of_row h) (by decide)
  unfold maxLen at h2
  exact ⟨A, c, e, hI, by omega⟩
section
variable {Q : Nat → Prop} {wb w0 w : World} {gm gl gh : Nat} {dv pv : Value} {st : MSt} {F : Nat → Int}
set_option maxRecDepth 100000 in
set_option maxHeartbeats 8000000 in
theorem once12_ok (h : IsMem Q wb w0 w gm dv pv st) (ok : Okay F) (hl : Blk w gl 205 (cellsF F)) (hF : F 22 = -2) (s : Nat) (hs : F 1 = s) (s1 : s ≤ 30) (L : List Int) (hL : freeList F s st = (L, true)) (hr : ∀ i, i < L.length → 0 ≤ L.getD i 0 ∧ L.getD i 0 < (s : Int)) (hn : L.length ≤ 1000)
    {cs : List Value} {zs : List Int} {T : Nat} (hb : Blk w gh 96 cs) (hz : zs.length = T) (hT : T ≤ 1000) (hcs : ∀ i, i < T → ∃ u v, (cs[i * 2]? = some u ∧ cs[i * 2 + 1]? = some v) ∧ ∀ W, Ext w W → Calls Tryz.prog 123 #[.agg #[u, v]] W fun e w' => e = .returned (.int .i64 (zs.getD i 0)) ∧ Ext W w') (hzr : ∀ i, i < T → -1 ≤ zs.getD i 0 ∧ zs.getD i 0 < (s : Int))
    (hc : ∀ k : Nat, k < s → L.count (k : Int) + zs.count (k : Int) = 1) :
    Calls Tryz.prog 44 #[.pointer (some ⟨gl, 0, none⟩), .pointer (some ⟨gm, 0, none⟩), .slice (some ⟨gh, 0, none⟩) T T, .int .i64 s] w fun e w' => e = .returned (.bool true) ∧ Ext w w' := by
  have HLi0 := freeList_ok h ok hl hF s hs (by omega)
  rw [hL] at HLi0
  have HLi := Lib.hid HLi0
  have HB := Lib.hid hb
  have HC := Lib.hid hc
  have HCs := Lib.hid hcs
  have HZr := Lib.hid hzr
  have HR := Lib.hid hr
  have HZl := Lib.hid hz
  have hmk := fun W => make_ints9 s (by omega) W
  have HMd := Lib.hid (made_ints9 s)
  generalize madeCells #[.int .i64 0] s = MW at *
  obtain ⟨n, hnL⟩ : ∃ n, L.length = n := ⟨_, rfl⟩
  have HLn := Lib.hid hnL
  rw [hnL] at hn
  clear HLi0 h ok hl hF hs hL hr hb hz hcs hzr hc hnL
  go_enter Tryz.func44, Tryz.ntmps44
  go_wp2_with fail
  refine HLi.out.mono ?_
  rintro e w1 ⟨va, rfl, ra, x1⟩
  obtain ⟨Aa, ca, rfl, ia, hbig⟩ := row_atB ra
  rw [HLn.out] at hbig
  rw [HLn.out]
  have IA := Lib.hid ia
  have X1 := Lib.hid x1
  have B1 := Lib.hid (HB.out.ext x1)
  clear ra ia x1 HLi HB
  go_wp2_with fail
  have B2 : Hid (Blk (w1.alloc (.cells MW 3)) w1.heap.size 3 (cntV s [])) := Lib.hid (by have := Blk.new w1 3 (List.replicate s (Value.int .i64 0)); rw [← HMd.out] at this; rw [cntV_nil]; exact this)
  have X2 := Lib.hid ((Ext.refl w1).alloc (.cells MW 3))
  generalize w1.alloc (.cells MW 3) = w2 at *
  have G2 : Hid (w1.heap.size ≤ w1.heap.size) := Lib.hid (Nat.le_refl _)
  obtain ⟨gc, hgc⟩ : ∃ gc, w1.heap.size = gc := ⟨_, rfl⟩
  rw [hgc] at B2 G2
  have HGc := Lib.hid hgc
  rw [hgc]
  clear hmk HMd hgc
  go_loopw [12] (fun i wr => ∃ k : Nat, k ≤ n ∧ i = .int .i64 k ∧ Ext w1 wr ∧ Blk wr gc 3 (cntV s (L.take k))) (fun i _ => n - (intOf i).toNat)
  case atStart => exact ⟨0, Nat.zero_le _, rfl, X2.out, by rw [List.take_zero]; exact B2.out⟩
  case round =>
    obtain ⟨k, hk, rfl, xk, bk⟩ := hrel
    have XK := Lib.hid xk
    have BK := Lib.hid bk
    clear xk bk X2 B2
    by_cases hlt : k < n
    · have v1 : decide (k < n) = true := by simp; omega
      obtain ⟨ad, hAd, _, hcc⟩ := (IA.out.ext XK.out) (by have := HLn.out; omega)
      have p0 := hcc k (by have := HLn.out; omega)
      have zr := HR.out k (by have := HLn.out; omega)
      have HTk := Lib.hid (take_on (L := L) (k := k) (by have := HLn.out; omega))
      obtain ⟨z, hz⟩ : ∃ z, L.getD k 0 = z := ⟨_, rfl⟩
      rw [hz] at p0 zr HTk
      obtain ⟨p, rfl⟩ := Int.eq_ofNat_of_zero_le zr.1
      subst hAd
      clear hcc hz
      have hps : p < s := by omega
      have d1 : decide (s ≤ p) = false := by simp; omega
      have d2 : decide ((s : Int) ≤ (p : Int)) = false := by simp; omega
      have d3 : decide ((p : Int) < 0) = false := by simp
      obtain ⟨c, hc⟩ : ∃ c, (L.take k).count (p : Int) = c := ⟨_, rfl⟩
      have hcb : c ≤ 1000 := by
        have h1 : (L.take k).count (p : Int) ≤ (L.take k).length := List.count_le_length
        rw [List.length_take] at h1
        omega
      have y0 : wr.cell? ⟨gc, p, none⟩ = some (.int .i64 (c : Int)) := by rw [BK.out.cell, cntV_at hps, hc]
      have z0 : wr.frozen? ⟨gc, p, none⟩ = false := BK.out.frozen p
      have wc : IntKind.i64.wrap ((c : Int) + 1) = (c : Int) + 1 := i64w _ (by omega) (by omega)
      have BN := Lib.hid (BK.out.set p (.int .i64 ((c : Int) + 1)))
      have HE : Hid ((cntV s (L.take k)).set p (.int .i64 ((c : Int) + 1)) = cntV s (L.take (k + 1))) := Lib.hid (by rw [HTk.out, ← cntV_on, hc])
      rw [HE.out] at BN
      have XN : Hid (Ext w1 (wr.setCell ⟨gc, p, none⟩ (.int .i64 ((c : Int) + 1)))) := Lib.hid (XK.out.setCell (p := ⟨gc, p, none⟩) (by rw [HGc.out]; exact Nat.le_refl _) _)
      clear hc
      go_wp2_with fail
      go_roundw
      case rel => exact ⟨k + 1, by omega, by go_num, XN.out, BN.out⟩
      case measure => simp [intOf]; omega
    · have v1 : decide (k < n) = false := by simp; omega
      obtain rfl : k = n := by omega
      have B3 : Hid (Blk wr gc 3 (cntV s (L ++ zs.take 0))) := Lib.hid (by
        have := BK.out
        rw [List.take_of_length_le (by have := HLn.out; omega)] at this
        rw [List.take_zero, List.append_nil]
        exact this)
      have X3 := Lib.hid XK.out
      clear BK XK IA HR
      go_wp2_with fail
      generalize wr = w3 at *
      go_loopw [13] (fun i wr => ∃ j : Nat, j ≤ T ∧ i = .int .i64 j ∧ Ext w1 wr ∧ Blk wr gc 3 (cntV s (L ++ zs.take j))) (fun i _ => T - (intOf i).toNat)
      case atStart => exact ⟨0, Nat.zero_le _, rfl, X3.out, B3.out⟩
      case round =>
        obtain ⟨j, hj, rfl, xj, bj⟩ := hrel
        have XJ := Lib.hid xj
        have BJ := Lib.hid bj
        clear xj bj X3 B3
        by_cases hjt : j < T
        · have v2 : decide (j < T) = true := by simp; omega
          obtain ⟨u, v, ⟨cu, cv⟩, hh⟩ := HCs.out j hjt
          have p1 : wr.cell? ⟨gh, j * 2, none⟩ = some u := by rw [(B1.out.ext XJ.out).cell, cu]
          have p2 : wr.cell? ⟨gh, j * 2 + 1, none⟩ = some v := by rw [(B1.out.ext XJ.out).cell, cv]
          have HH := Lib.hid (hh wr (X1.out.trans XJ.out))
          clear cu cv hh
          have zr := HZr.out j hjt
          have HTk := Lib.hid (take_on (L := zs) (k := j) (by have := HZl.out; omega))
          obtain ⟨z, hz⟩ : ∃ z, zs.getD j 0 = z := ⟨_, rfl⟩
          rw [hz] at HH zr HTk
          have HTa : Hid (L ++ zs.take (j + 1) = (L ++ zs.take j) ++ [z]) := Lib.hid (by rw [HTk.out, List.append_assoc])
          clear hz
          have d2 : decide ((s : Int) ≤ z) = false := by simp; omega
          go_wp2_with fail
          refine HH.out.mono ?_
          rintro e w9 ⟨rfl, x9⟩
          have XJ9 := Lib.hid (XJ.out.trans x9)
          have BJ9 := Lib.hid (BJ.out.ext x9)
          clear x9 HH p1 p2 XJ BJ
          by_cases hneg : z < 0
          · have d3 : decide (0 ≤ z) = false := by simp; omega
            have BN : Hid (Blk w9 gc 3 (cntV s (L ++ zs.take (j + 1)))) := Lib.hid (by rw [HTa.out, cntV_neg s _ hneg]; exact BJ9.out)
            go_wp2_with fail
            go_roundw
            case rel => exact ⟨j + 1, by omega, by go_num, XJ9.out, BN.out⟩
            case measure => simp [intOf]; omega
          · obtain ⟨p, rfl⟩ := Int.eq_ofNat_of_zero_le (show 0 ≤ z by omega)
            have hps : p < s := by omega
            have d2' : decide (s ≤ p) = false := by simp; omega
            have d3 : decide (0 ≤ (p : Int)) = true := by simp
            obtain ⟨c, hc⟩ : ∃ c, (L ++ zs.take j).count (p : Int) = c := ⟨_, rfl⟩
            have hcb : c ≤ 3000 := by
              have h1 : (L ++ zs.take j).count (p : Int) ≤ (L ++ zs.take j).length := List.count_le_length
              rw [List.length_append, List.length_take] at h1
              have := HLn.out
              omega
            have y0 : w9.cell? ⟨gc, p, none⟩ = some (.int .i64 (c : Int)) := by rw [BJ9.out.cell, cntV_at hps, hc]
            have z0 : w9.frozen? ⟨gc, p, none⟩ = false := BJ9.out.frozen p
            have wc : IntKind.i64.wrap ((c : Int) + 1) = (c : Int) + 1 := i64w _ (by omega) (by omega)
            have BN := Lib.hid (BJ9.out.set p (.int .i64 ((c : Int) + 1)))
            have HE : Hid ((cntV s (L ++ zs.take j)).set p (.int .i64 ((c : Int) + 1)) = cntV s (L ++ zs.take (j + 1))) := Lib.hid (by rw [HTa.out, ← cntV_on, hc])
            rw [HE.out] at BN
            have XN : Hid (Ext w1 (w9.setCell ⟨gc, p, none⟩ (.int .i64 ((c : Int) + 1)))) := Lib.hid (XJ9.out.setCell (p := ⟨gc, p, none⟩) (by rw [HGc.out]; exact Nat.le_refl _) _)
            clear hc hneg
            go_wp2_with fail
            go_roundw
            case rel => exact ⟨j + 1, by omega, by go_num, XN.out, BN.out⟩
            case measure => simp [intOf]; omega
        · have v2 : decide (j < T) = false := by simp; omega
          obtain rfl : j = T := by omega
          have B4 : Hid (Blk wr gc 3 (cntV s (L ++ zs))) := Lib.hid (by
            have := BJ.out
            rw [List.take_of_length_le (by have := HZl.out; omega)] at this
            exact this)
          have X4 := Lib.hid XJ.out
          clear BJ XJ HZr HCs
          go_wp2_with fail
          generalize wr = w4 at *
          go_loopw [15] (fun i wr => ∃ p : Nat, p ≤ s ∧ i = .int .i64 p ∧ Ext w4 wr) (fun i _ => s - (intOf i).toNat)
          case atStart => exact ⟨0, Nat.zero_le _, rfl, Ext.refl _⟩
          case round =>
            obtain ⟨p, hp, rfl, xp⟩ := hrel
            have XP := Lib.hid xp
            clear xp
            by_cases hps : p < s
            · have v3 : decide (p < s) = true := by simp; omega
              have y0 : wr.cell? ⟨gc, p, none⟩ = some (.int .i64 1) := by
                rw [(B4.out.ext XP.out).cell, cntV_at hps, List.count_append, HC.out p hps]
                rfl
              go_wp2_with fail
              go_roundw
              case rel => exact ⟨p + 1, by omega, by go_num, XP.out⟩
              case measure => simp [intOf]; omega
            · have v3 : decide (p < s) = false := by simp; omega
              go_wp2_with fail
              go_ret
              exact ⟨rfl, (X1.out.trans X4.out).trans XP.out⟩
end
theorem onceA_ok {w1 w : World} {gm gl gh : Nat} {dv pv : Value} {t s l b n : Nat} {hs : List AHd} {L : List Int} {st : MSt} (h : AMAt w1 w gm dv pv gl gh (layF t s l b) (hs.map AHd.cells) hs st) (f : FMA t s l b n hs L st) (hT : hs.length = t) (ht : t ≤ 6) (hs30 : s ≤ 30) (okF : Okay (layF t s l b)) :
    Calls Tryz.prog 44 #[.pointer (some ⟨gl, 0, none⟩), .pointer (some ⟨gm, 0, none⟩), .slice (some ⟨gh, 0, none⟩) t t, .int .i64 s] w fun e w' => e = .returned (.bool true) ∧ Ext w w' := by
  have hmem : ∀ x ∈ hs, x.Ok t l := fun x m => by
    obtain ⟨i, hi, e⟩ := List.getElem_of_mem m
    exact f.ok i x (by rw [List.getElem?_eq_getElem hi, e])
  have hl2 : ∀ r ∈ hs.map AHd.cells, r.length = 2 := fun r m => by
    obtain ⟨x, _, rfl⟩ := List.mem_map.1 m
    exact x.cells_len
  have hL := f.fm.list
  have hlen : L.length ≤ s := pigeon s L f.fm.nodup f.fm.rng
  have get : ∀ i, i < t → ∃ x, hs[i]? = some x ∧ (hs.map AHd.val).getD i 0 = x.val := fun i hi => ⟨hs[i]'(by omega), List.getElem?_eq_getElem _, by
    rw [List.getD_eq_getElem?_getD, List.getElem?_map, List.getElem?_eq_getElem (by omega)]
    rfl⟩
  refine once12_ok (zs := hs.map AHd.val) (T := t) h.m okF h.l rfl s rfl hs30 L hL (fun i hi => ?_) (by omega) h.h (by rw [List.length_map]; exact hT) (by omega) (fun i hi => ?_) (fun i hi => ?_) (fun k hk => ?_)
  · have m : L.getD i 0 ∈ L := by
      rw [List.getD_eq_getElem?_getD, List.getElem?_eq_getElem hi]
      exact List.getElem_mem _
    exact f.fm.rng _ m
  · obtain ⟨x, e, ev⟩ := get i hi
    have er : (hs.map AHd.cells)[i]? = some x.cells := by rw [List.getElem?_map, e]; rfl
    obtain ⟨u, v, hx⟩ : ∃ u v, x.cells = [u, v] := by cases x <;> exact ⟨_, _, rfl⟩
    refine ⟨u, v, ⟨?_, ?_⟩, fun W xw => ?_⟩
    · have := flat2 (f := 0) hl2 (by decide) er
      rw [hx] at this
      exact this
    · have := flat2 (f := 1) hl2 (by decide) er
      rw [hx] at this
      exact this
    · have := handHolds_ok h e (f.ok i x e) W xw
      rw [hx] at this
      rw [ev]
      exact this
  · obtain ⟨x, e, ev⟩ := get i hi
    have hv := val_al (f.ok i x e)
    have hi2 := f.fm.each i x.al (f.al_at e)
    rw [ev, hv]
    by_cases hp : x.al.pop = true
    · rw [if_pos hp]
      omega
    · rw [if_neg hp]
      have := hi2.yr (by simpa using hp)
      omega
  · rw [val_count (by omega) hs hmem]
    exact f.fm.cnt k (by omega) (by omega)
end Go.Proofs.YtfjfeomkmhbpbaaGreat


/- Several Takes and Gives between one another: their beginning. Conditions: those that each theorem names. -/
namespace Go.Proofs.YtfjfeomkmhbpbaaGreat
open Go.ChangeShapes Go.WideShapes Go.ChangeAt Go.RowKit
set_option linter.unusedVariables false
theorem hand12_info : (Tryz.prog.info? 96).map (fun i => (i.zero, i.size, i.bytes)) = some (some (.agg #[.pointer none, .pointer none]), 2, 16) := by kernel_rfl
def z2 : List Value := [.pointer none, .pointer none]
theorem make_hands12 (n : Nat) (hc : n ≤ 1000000000) (W : World) :
    (Instr.makeSlice 94 (.int .i64 (n : Int)) (.int .i64 (n : Int))).run Tryz.prog W = .ok (.slice (some ⟨W.heap.size, 0, none⟩) n n) (W.alloc (.cells (madeCells #[.pointer none, .pointer none] (n * 2)) 96)) := by
  obtain ⟨i, hi, hz1, hz2, hz3⟩ := info_parts hand12_info
  have h := run_makeInts (k := .u8) Tryz.underlying94 hi hz1 hz2 n n (Nat.le_refl _) (by rw [hz3]; omega) (by unfold maxLen; omega) W
  exact h
theorem made_hands12 (n : Nat) : madeCells #[.pointer none, .pointer none] (n * 2) = (((List.replicate n AHd.idle).map AHd.cells).flatten).toArray := by
  have hlen : ∀ r ∈ (List.replicate n AHd.idle).map AHd.cells, r.length = 2 := fun r m => by
    obtain ⟨x, _, rfl⟩ := List.mem_map.1 m
    exact x.cells_len
  have hl : (((List.replicate n AHd.idle).map AHd.cells).flatten).length = n * 2 := by
    rw [List.map_replicate, List.length_flatten, List.map_replicate, List.sum_replicate_nat]
    rfl
  apply Array.ext
  · simp [madeCells]
    rfl
  · intro i h1 h2
    have hi : i < n * 2 := by simpa [madeCells] using h1
    have hd : i / 2 * 2 + i % 2 = i := by omega
    have hr : i % 2 < 2 := Nat.mod_lt _ (by decide)
    have hq : i / 2 < n := by omega
    have key := flat_get (sz := 2) ((List.replicate n AHd.idle).map AHd.cells) (i / 2) (i % 2) hlen hr
    rw [hd, List.getElem?_map, List.getElem?_replicate, if_pos hq] at key
    have e2 : (((List.replicate n AHd.idle).map AHd.cells).flatten)[i]? = some ((((List.replicate n AHd.idle).map AHd.cells).flatten)[i]'(by rw [hl]; exact hi)) := List.getElem?_eq_getElem _
    rw [e2] at key
    have key2 : some ((((List.replicate n AHd.idle).map AHd.cells).flatten)[i]'(by rw [hl]; exact hi)) = z2[i % 2]? := key
    have e3 : (madeCells #[.pointer none, .pointer none] (n * 2))[i] = #[Value.pointer none, .pointer none][i % 2]! := by simp [madeCells]
    rw [e3, List.getElem_toArray]
    have hc : i % 2 = 0 ∨ i % 2 = 1 := by omega
    rcases hc with e | e <;> rw [e] at key2 ⊢ <;> exact (Option.some.inj key2).symm
theorem upN_ch {nx : Int → Int} {n : Nat} (h1 : ∀ i : Nat, i + 1 < n → nx i = (i : Int) + 1) (h2 : ∀ i : Nat, i + 1 = n → nx i = -1) : ∀ (j k : Nat), j + k = n → IsCh nx (if k < n then (k : Int) else -1) ((List.range' k j).map fun (i : Nat) => (i : Int))
  | 0, k, h => by
    rw [if_neg (by omega)]
    rfl
  | j + 1, k, h => by
    rw [if_pos (by omega), List.range'_succ]
    refine ⟨rfl, ?_⟩
    have key := upN_ch h1 h2 j (k + 1) (by omega)
    by_cases hk : k + 1 < n
    · rw [if_pos hk] at key
      rw [h1 k hk]
      exact key
    · rw [if_neg hk] at key
      rw [h2 k (by omega)]
      exact key
theorem upN_count {n k : Nat} (h : k < n) : (upN n).count (k : Int) = 1 := by
  induction n with
  | zero => omega
  | succ n ih =>
    rw [upN_succ, List.count_append, List.count_singleton]
    by_cases e : k = n
    · subst e
      have h0 : (upN k).count (k : Int) = 0 := List.count_eq_zero.2 (fun m => by have := upN_mem.1 m; omega)
      rw [h0]
      simp
    · rw [ih (by omega)]
      have : ((n : Int) == (k : Int)) = false := by rw [beq_eq_false_iff_ne]; omega
      rw [this]
      rfl
def newTk (gu : Nat) : TkM := ⟨1, gu, pm0, none, none, none, false, 0, 0⟩
theorem hadC_zero (k : Int) : ∀ hs : List Hd, (∀ h ∈ hs, h = ⟨true, 0, pm0⟩) → hadC k hs = 0
  | [], _ => rfl
  | h :: hs, a => by
    show had1 k h + hadC k hs = 0
    rw [hadC_zero k hs (fun x m => a x (by simp [m])), a h (by simp)]
    rfl
theorem manyA_start {t s l b : Nat} {hs : List AHd} (hf : FewC t s l b) (hlen : hs.length = t) (hall : ∀ i, i < t → ∃ gt gu, hs[i]? = some (.take gt (newTk gu))) : FMA t s l b 0 hs (upN s) (groundSt t s l b (rowPs (layF t s l b) (upN s) s)) := by
  obtain ⟨hb0, hb8, hl0, hl8, hs1⟩ := hf
  have h := ground_free (t := t) (l := l) (b := b) (Nat.le_refl s) (by omega)
  have hal : ∀ (i : Nat) (x : AHd), hs[i]? = some x → ∃ gt gu, x = .take gt (newTk gu) := fun i x e => by
    have hi : i < t := by rw [← hlen]; exact (List.getElem?_eq_some_iff.1 e).1
    obtain ⟨gt, gu, e2⟩ := hall i hi
    rw [e] at e2
    injection e2 with e2
    exact ⟨gt, gu, e2⟩
  have hv : verN (peekV (groundSt t s l b (rowPs (layF t s l b) (upN s) s)) (-2)) ≤ 0 := by
    by_cases ht : 0 < t
    · exact (TA.AA.start (t := t) (th := 0) hb0 hb8 hl0 hl8 (by omega) ht).v
    · have h0 : t = 0 := by omega
      subst h0
      have pl : ∀ i, i < s → (rowP (layF (0 : Nat) s l b) (upN s) i).1 = if i = 0 then -2 else -3 - ((0 : Nat) : Int) - ((i - 1 : Nat) : Int) := fun i hi => by
        unfold rowP
        by_cases h : i = 0
        · rw [if_pos h, if_pos h]
        · rw [if_neg h, if_neg h]
          show aft (layF (0 : Nat) s l b) ((upN s).getD (i - 1) 0) = _
          rw [upN_at (by omega), aft_at (by omega) (by omega)]
      have key := putAll_peek (MOk.start 0 s l b) (rowP (layF (0 : Nat) s l b) (upN s)) (fun _ => Or.inr trivial) s (fun i hi => by
        rw [pl i hi]
        split <;> omega) (fun i j hij hj => by
        rw [pl i (by omega), pl j hj, if_neg (show ¬ j = 0 by omega)]
        split <;> omega)
      have e0 : groundSt 0 s l b (rowPs (layF (0 : Nat) s l b) (upN s) s) = putAll (startSt 0 s l b) ((List.range s).map (rowP (layF (0 : Nat) s l b) (upN s))) := rfl
      rw [e0]
      by_cases h0 : 0 < s
      · have h1 := key.1 0 h0
        rw [pl 0 h0, if_pos rfl] at h1
        rw [h1]
        show verN ((upN s).getD 0 0 + 1) ≤ 0
        rw [upN_at h0]
        decide
      · have h1 := key.2 (-2) (fun i hi => absurd hi (by omega))
        rw [h1, start_peek]
        decide
  refine ⟨⟨h.ok, ?_, hv, fun x m => upN_mem.1 m, fun k k0 k1 => ?_, fun i x e => ?_⟩, fun i m hi hm => ?_, fun i x e => ?_⟩
  · rw [h.top]
    have key := upN_ch (nx := nextS (layF t s l b) (groundSt t s l b (rowPs (layF t s l b) (upN s) s))) h.nx h.nl s 0 (by omega)
    rw [← List.range_eq_range'] at key
    exact key
  · obtain ⟨k', rfl⟩ := Int.eq_ofNat_of_zero_le k0
    rw [hadC_zero _ _ (fun x m => by
      obtain ⟨y, my, rfl⟩ := List.mem_map.1 m
      obtain ⟨i, hi, ei⟩ := List.getElem_of_mem my
      obtain ⟨gt, gu, rfl⟩ := hal i y (by rw [List.getElem?_eq_getElem hi, ei])
      rfl), upN_count (by omega)]
  · rw [List.getElem?_map] at e
    cases h2 : hs[i]? with
    | none => rw [h2] at e; cases e
    | some y =>
      rw [h2] at e
      obtain ⟨gt, gu, rfl⟩ := hal i y h2
      injection e with e
      rw [← e]
      exact HI.new _ _ _ _
  · exact TA.ground_else (Nat.le_refl s) (by rw [TA.log_at hb0 hb8 hl0 hl8 hi hm]; omega) (by rw [TA.log_at hb0 hb8 hl0 hl8 hi hm]; omega)
  · obtain ⟨gt, gu, rfl⟩ := hal i x e
    exact new_ok
/-- Where the rows are those of the threads. -/
theorem rows_same {hs : List AHd} {i : Nat} {h0 h' : AHd} (e : hs[i]? = some h0) (hc : h'.cells = h0.cells) : (hs.set i h').map AHd.cells = hs.map AHd.cells := by
  rw [List.map_set, hc]
  exact set_same (by rw [List.getElem?_map, e]; rfl)
theorem rowsA_len (hs : List AHd) : ∀ r ∈ hs.map AHd.cells, r.length = 2 := fun r m => by
  obtain ⟨x, _, rfl⟩ := List.mem_map.1 m
  exact x.cells_len
theorem set_len2 {rows : List (List Value)} {i : Nat} {r : List Value} (hl : ∀ r ∈ rows, r.length = 2) (hr : r.length = 2) : ∀ x ∈ rows.set i r, x.length = 2 := fun x m => by
  rcases List.mem_or_eq_of_mem_set m with h | h
  · exact hl x h
  · rw [h]; exact hr
end Go.Proofs.YtfjfeomkmhbpbaaGreat


/- A Give's step: how many lines are flushed, the clock. Conditions: those that each theorem names. -/
namespace Go.Proofs.YtfjfeomkmhbpbaaGreat
open Go.ChangeShapes Go.WideShapes Go.ChangeAt Go.RowKit
set_option linter.unusedVariables false
theorem gvS_calm {F : Nat → Int} {t n : Int} {x : GvM} {s : MSt} (hU : ∀ a, W64 (peekV s a)) (hx : x.push.Wf) (hc : CalmN n s) : CalmN (n + 1) (gvS F t x s).2 := by
  unfold gvS
  (repeat' split)
  · exact hc.mono (by omega)
  · exact (pushS_wf hU hx hc).2
  · exact hc.store _ _ _
theorem gvS_fine9 {k : Nat} {F : Nat → Int} {t : Int} {x : GvM} {s : MSt} (hf : Fine k s.dev) (hn : s.dev.n ≤ 90) : Fine (k + 1) (gvS F t x s).2.dev := by
  unfold gvS
  (repeat' split)
  · exact hf.up
  · exact pushS_fine9 hf hn
  · exact act_fine9 hf hn 2 t (intN F t) 0 0
end Go.Proofs.YtfjfeomkmhbpbaaGreat

