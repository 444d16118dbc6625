/- Several threads that take slots and give them back between one another (layer 12): what holds, and what a step keeps. Conditions: those that each theorem names. -/
import Derived.Test.YtfjfeomkmhbpbaaGreatKArE
import Derived.Test.YtfjfeomkmhbpbaaGreatKFN
import Derived.Test.YtfjfeomkmhbpbaaGreatArgs
import Derived.Deep.DeepCutAuto
import Derived.Deep.CutBlock
import Derived.Deep.MidRow
namespace Go.Proofs.YtfjfeomkmhbpbaaGreat
open Go.ChangeShapes Go.WideShapes Go.ChangeAt Go.RowKit
set_option linter.unusedVariables false
/-- A thread: its Take, or its Give and the slot of that. -/
inductive AHd where
  | idle
  | take (gt : Nat) (x : TkM)
  | give (gg gu : Nat) (x : GvM) (a : Int)
/-- What it does at the free list. -/
def AHd.al : AHd → Hd
  | .idle => ⟨true, 0, pm0⟩
  | .take _ x => if x.part = 1 ∨ x.part = 4 then ⟨true, 0, x.pop⟩ else if 5 ≤ x.part then ⟨false, 0, ⟨0, 0, toN x.pop.top, false⟩⟩ else ⟨true, 0, pm0⟩
  | .give _ _ x _ => ⟨false, 0, x.push⟩
def AHd.Ok (t l : Nat) : AHd → Prop
  | .idle => False
  | .take _ x => x.Wf t l ∧ x.part ≠ 0 ∧ (x.part = 3 → ∀ q, x.rc = some q → q.2.part = 0 ∨ q.2.part = 1)
  | .give _ _ x a => x.push.Wf ∧ x.push.y = a ∧ x.push.dn = false ∧ 0 ≤ a
theorem set_same {α : Type} {l : List α} {i : Nat} {a : α} (h : l[i]? = some a) : l.set i a = l := by
  obtain ⟨hlt, e⟩ := List.getElem?_eq_some_iff.1 h
  subst e
  exact List.set_getElem_self hlt
section
variable {t s l b n : Nat}
/-- What is done aside of the free list. -/
theorem FM.aside {hs : List Hd} {L : List Int} {st st' : MSt} (h : FM t s l b n hs L st) (ok : MOk (2 + t + s) (wN t s l b) st') (ht : peekV st' (-2) = peekV st (-2)) (hn : ∀ k : Int, 0 ≤ k → k < (s : Int) → nextS (layF t s l b) st' k = nextS (layF t s l b) st k) : FM t s l b (n + 1) hs L st' := by
  refine ⟨ok, ?_, by rw [ht]; have := h.v; omega, h.rng, h.cnt, fun j hj e => ?_⟩
  · rw [ht]
    exact h.ch.turn _ _ (fun x m => hn x (h.rng x m).1 (h.rng x m).2)
  · have k := h.each j hj e
    refine k.same ht (fun a ha => ?_)
    rcases ha with ⟨_, e2, h0⟩ | ⟨hp, e2⟩
    · obtain ⟨L', hL, _⟩ := h.head (by rw [← e2]; exact h0)
      have := h.rng a (by rw [hL, e2]; simp)
      exact hn a this.1 this.2
    · rw [e2]
      exact hn _ (k.yr hp).1 (k.yr hp).2
structure FMA (t s l b n : Nat) (hs : List AHd) (L : List Int) (st : MSt) : Prop where
  fm : FM t s l b n (hs.map AHd.al) L st
  lg : ∀ i m : Nat, i < t → m < l → peekV st (logN (layF t s l b) i m) = 0
  ok : ∀ (i : Nat) (h : AHd), hs[i]? = some h → h.Ok t l
theorem FMA.put {hs : List AHd} {L L' : List Int} {st st' : MSt} {i : Nat} {h' : AHd} (h : FMA t s l b n hs L st) (hi : i < hs.length) (fm : FM t s l b (n + 1) ((hs.map AHd.al).set i h'.al) L' st') (lg : ∀ i m : Nat, i < t → m < l → peekV st' (logN (layF t s l b) i m) = 0) (ok : h'.Ok t l) : FMA t s l b (n + 1) (hs.set i h') L' st' := by
  refine ⟨by rw [List.map_set]; exact fm, lg, fun j hj e => ?_⟩
  rw [set_get _ _ _ _ hi] at e
  by_cases ej : j = i
  · rw [if_pos ej] at e
    injection e with e
    rw [← e]
    exact ok
  · rw [if_neg ej] at e
    exact h.ok j hj e
theorem FMA.al_at {hs : List AHd} {L : List Int} {st : MSt} {i : Nat} {h0 : AHd} (h : FMA t s l b n hs L st) (e : hs[i]? = some h0) : (hs.map AHd.al)[i]? = some h0.al := by
  rw [List.getElem?_map, e]
  rfl
/-- Where what a thread does at the free list stays the same. -/
theorem FMA.aside {hs : List AHd} {L : List Int} {st st' : MSt} {i : Nat} {h0 h' : AHd} (h : FMA t s l b n hs L st) (e : hs[i]? = some h0) (hal : h'.al = h0.al) (ok : MOk (2 + t + s) (wN t s l b) st') (ht : peekV st' (-2) = peekV st (-2)) (hn : ∀ k : Int, 0 ≤ k → k < (s : Int) → nextS (layF t s l b) st' k = nextS (layF t s l b) st k) (lg : ∀ i m : Nat, i < t → m < l → peekV st' (logN (layF t s l b) i m) = 0) (hk : h'.Ok t l) : FMA t s l b (n + 1) (hs.set i h') L st' :=
  h.put (List.getElem?_eq_some_iff.1 e).1 (by rw [hal, set_same (h.al_at e)]; exact h.fm.aside ok ht hn) lg hk
theorem nx_of {st st' : MSt} (hp : ∀ a : Int, a < -1 → peekV st' a = peekV st a) : peekV st' (-2) = peekV st (-2) ∧ ∀ k : Int, 0 ≤ k → k < (s : Int) → nextS (layF t s l b) st' k = nextS (layF t s l b) st k :=
  ⟨hp (-2) (by decide), fun k k0 k1 => by
    unfold nextS
    rw [aft_at k0 k1]
    exact congrArg toN (hp _ (by omega))⟩
theorem popS_was {F : Nat → Int} {th : Int} {x : PMs} {st : MSt} {P N : Nat} (ok : MOk P N st) (hP : 2 ≤ P) (hw : x.Wf) (hd : x.dn = false) (h : (popS F th x st).1.dn = true) : (popS F th x st).1.top = peekV st (-2) := by
  obtain ⟨part, top, y, dn⟩ := x
  simp only at hd
  subst hd
  rcases hw.part with e | e | e
  · have e' : part = 0 := e
    subst e'
    rfl
  · have e' : part = 1 := e
    subst e'
    cases h
  · have e' : part = 2 := e
    subst e'
    have h2 : swapB st (-2) top = true := h
    rw [swapB_is (ok.is (by omega) (by omega))] at h2
    exact (of_decide_eq_true h2).symm
/-- What a step of a Take at thread i leaves. -/
def TakeLeft (t s l b n : Nat) (hs : List AHd) (i gt : Nat) (p : TkM × MSt) : Prop :=
  (p.1.part ≠ 0 → ∃ L', FMA t s l b (n + 1) (hs.set i (.take gt p.1)) L' p.2) ∧
  (p.1.part = 0 → (toN p.1.pop.top = -1 ∧ p.1.dry = true ∧ p.1.empty = p.2.clock ∧ ∀ gt' gu', FMA t s l b (n + 1) (hs.set i (.take gt' ⟨1, gu', pm0, none, none, none, false, 0, 0⟩)) [] p.2) ∨
    ∃ (a : Int) (L' : List Int), toN p.1.pop.top = a ∧ 0 ≤ a ∧ a < (s : Int) ∧ ∀ gg gu, FMA t s l b (n + 1) (hs.set i (.give gg gu ⟨false, ⟨0, 0, a, false⟩⟩ a)) L' p.2)
theorem new_ok {gt gu : Nat} : (AHd.take gt ⟨1, gu, pm0, none, none, none, false, 0, 0⟩).Ok t l := ⟨tkNew_wf, by show (1 : Nat) ≠ 0; decide, fun e => absurd e (by show ¬ (1 : Nat) = 3; decide)⟩
theorem give_ok0 {gg gu : Nat} {a : Int} (h0 : 0 ≤ a) (h1 : a < 1000000) : (AHd.give gg gu ⟨false, ⟨0, 0, a, false⟩⟩ a).Ok t l :=
  ⟨⟨Or.inl rfl, w64_0, ⟨by show _ ≤ a; omega, by show a < _; omega⟩⟩, rfl, rfl, h0⟩
structure FewC (t s l b : Nat) : Prop where
  b0 : 0 < b
  b8 : b ≤ 8
  l0 : 0 < l
  l8 : l ≤ 8
  s1 : s ≤ 1000
set_option maxHeartbeats 1000000 in
theorem FMA.take {hs : List AHd} {L : List Int} {st : MSt} {i gt n1 n2 : Nat} {x : TkM} (h : FMA t s l b n hs L st) (hf : FewC t s l b) (hn : n ≤ 1000) (hU : ∀ a, W64 (peekV st a)) {c : Int} (hc : CalmN c st) (e : hs[i]? = some (.take gt x)) (hi : i < t) :
    TakeLeft t s l b n hs i gt (tkS (layF t s l b) t (i : Int) x st n1 n2) := by
  obtain ⟨hb0, hb8, hl0, hl8, hs1⟩ := hf
  have hok := h.ok i _ e
  obtain ⟨hw, hp0, hr3⟩ := hok
  have h9 := hw.part
  have hlt : i < hs.length := (List.getElem?_eq_some_iff.1 e).1
  have hwf := (tkS_wf (F := layF t s l b) (T := t) (L := l) (t := (i : Int)) (n1 := n1) (n2 := n2) rfl hl0 hU hw hc).1
  have okM : MOk (2 + t + s) (wN t s l b) st := h.fm.ok
  have eI := TA.int_at (s := s) (l := l) hb0 hb8 hi
  have eN := TA.wN_at (t := t) (s := s) hb0 hb8 hl0 hl8
  have eL : ∀ j m : Nat, j < t → m < l → logN (layF t s l b) j m = 48 + 8 * (t : Int) + 8 * (j : Int) + (m : Int) := fun j m hj hm => TA.log_at hb0 hb8 hl0 hl8 hj hm
  have hal := h.al_at e
  have hcs : x.part = 1 ∨ x.part = 2 ∨ x.part = 3 ∨ x.part = 4 ∨ x.part = 5 ∨ x.part = 6 ∨ x.part = 7 ∨ x.part = 8 ∨ x.part = 9 := by omega
  have lgl : ∀ a : Int, ∀ j m : Nat, j < t → m < l → peekV (st.load (i : Int) a) (logN (layF t s l b) j m) = 0 := fun a j m hj hm => by rw [peekV_load]; exact h.lg j m hj hm
  -- the first and the second Pop
  have pops : ∀ (hx : x.part = 1 ∨ x.part = 4), (popS (layF t s l b) (i : Int) x.pop st).2 = (popS (layF t s l b) (i : Int) x.pop st).2 ∧ (∀ j m : Nat, j < t → m < l → peekV (popS (layF t s l b) (i : Int) x.pop st).2 (logN (layF t s l b) j m) = 0) := fun hx => ⟨rfl, fun j m hj hm => by
    unfold popS
    (repeat' split)
    · exact h.lg j m hj hm
    · exact lgl _ j m hj hm
    · exact lgl _ j m hj hm
    · show peekV (st.swap (i : Int) (-2) x.pop.top (topN x.pop.y (ver1 x.pop.top))) (logN (layF t s l b) j m) = 0
      rw [peekV_swap okM (okM.is (by omega) (by omega)), if_neg (fun e2 => by have := eL j m hj hm; omega)]
      exact h.lg j m hj hm⟩
  rcases hcs with hp | hp | hp | hp | hp | hp | hp | hp | hp
  · -- 1
    obtain ⟨part, gu, pop, av, adv, rc, dry, empty, gen⟩ := x
    simp only at hp
    subst hp
    have e0 : (AHd.take gt ⟨1, gu, pop, av, adv, rc, dry, empty, gen⟩).al = ⟨true, 0, pop⟩ := rfl
    rw [e0] at hal
    obtain ⟨fa, fb⟩ := h.fm.pop hn (by omega) hU hal rfl (i : Int)
    have lg := (pops (Or.inl rfl)).2
    have hws := popS_wf (F := layF t s l b) (t := (i : Int)) hU hw.pop hc
    have was := popS_was (F := layF t s l b) (th := (i : Int)) okM (by omega) hw.pop (hw.p14 (Or.inl rfl))
    have et : tkS (layF t s l b) t (i : Int) ⟨1, gu, pop, av, adv, rc, dry, empty, gen⟩ st n1 n2 = tk1 ⟨1, gu, pop, av, adv, rc, dry, empty, gen⟩ (popS (layF t s l b) (i : Int) pop st) n1 n2 := rfl
    rw [et] at hwf ⊢
    simp only at fa fb lg hws was
    generalize popS (layF t s l b) (i : Int) pop st = p at *
    unfold TakeLeft tk1 at *
    by_cases hd : p.1.dn = false
    · simp only [hd, if_true] at hwf ⊢
      refine ⟨fun _ => ⟨L, h.put hlt (fa hd) lg ⟨hwf, by show (1 : Nat) ≠ 0; decide, fun e => absurd e (by show ¬ (1 : Nat) = 3; decide)⟩⟩, fun e => absurd e (by show ¬ (1 : Nat) = 0; decide)⟩
    · have hd' : p.1.dn = true := by simpa using hd
      by_cases hs0 : toN p.1.top = -1
      · simp only [hd', hs0, if_true, Bool.true_eq_false, if_false] at hwf ⊢
        refine ⟨fun _ => ?_, fun e => absurd e (by show ¬ (2 : Nat) = 0; decide)⟩
        rcases fb hd' with ⟨_, f⟩ | ⟨a, L', ea, a0, _⟩
        · exact ⟨L, h.put hlt (f 0) lg ⟨hwf, by show (2 : Nat) ≠ 0; decide, fun e => absurd e (by show ¬ (2 : Nat) = 3; decide)⟩⟩
        · omega
      · simp only [hd', hs0, Bool.true_eq_false, if_false] at hwf ⊢
        refine ⟨fun _ => ?_, fun e => absurd e (by show ¬ (5 : Nat) = 0; decide)⟩
        rcases fb hd' with ⟨e2, _⟩ | ⟨a, L', ea, a0, a1, f⟩
        · exact absurd e2 hs0
        · refine ⟨L', h.put hlt ?_ lg ⟨hwf, by show (5 : Nat) ≠ 0; decide, fun e => absurd e (by show ¬ (5 : Nat) = 3; decide)⟩⟩
          have := f 0
          rw [← ea] at this
          exact this
  · -- 2
    obtain ⟨part, gu, pop, av, adv, rc, dry, empty, gen⟩ := x
    simp only at hp
    subst hp
    obtain ⟨ga, a, gr, e1, e2, haw, had, e3⟩ := hw.p2 rfl
    simp only at e1 e2 e3
    subst e1 e2 e3
    have et : tkS (layF t s l b) t (i : Int) ⟨2, gu, pop, some ⟨ga, 0, none⟩, some (ga, a), some (gr, rc0), dry, empty, gen⟩ st n1 n2 = tk2 ⟨2, gu, pop, some ⟨ga, 0, none⟩, some (ga, a), some (gr, rc0), dry, empty, gen⟩ ga (advS (layF t s l b) t (i : Int) a st) := rfl
    have pk : ∀ z : Int, z ≠ -1 → peekV (advS (layF t s l b) t (i : Int) a st).2 z = peekV st z := fun z hz => advS_peek okM (by omega) hz
    have mk := advS_mok (F := layF t s l b) (T := t) (t := (i : Int)) (y := a) okM
    rw [et] at hwf ⊢
    generalize advS (layF t s l b) t (i : Int) a st = p at *
    obtain ⟨x1, x2⟩ := nx_of (t := t) (s := s) (l := l) (b := b) (st := st) (st' := p.2) (fun z hz => pk z (by omega))
    have lg : ∀ j m : Nat, j < t → m < l → peekV p.2 (logN (layF t s l b) j m) = 0 := fun j m hj hm => by rw [pk _ (by rw [eL j m hj hm]; omega)]; exact h.lg j m hj hm
    unfold TakeLeft tk2 at *
    by_cases hd : p.1.dn = false
    · simp only [hd, if_true] at hwf ⊢
      exact ⟨fun _ => ⟨L, h.aside e rfl mk x1 x2 lg ⟨hwf, by show (2 : Nat) ≠ 0; decide, fun e => absurd e (by show ¬ (2 : Nat) = 3; decide)⟩⟩, fun e => absurd e (by show ¬ (2 : Nat) = 0; decide)⟩
    · have hd' : p.1.dn = true := by simpa using hd
      simp only [hd', Bool.true_eq_false, if_false] at hwf ⊢
      exact ⟨fun _ => ⟨L, h.aside e rfl mk x1 x2 lg ⟨hwf, by show (3 : Nat) ≠ 0; decide, fun _ q e => by injection e with e; subst e; exact Or.inl rfl⟩⟩, fun e => absurd e (by show ¬ (3 : Nat) = 0; decide)⟩
  · -- 3
    obtain ⟨part, gu, pop, av, adv, rc, dry, empty, gen⟩ := x
    simp only at hp
    subst hp
    obtain ⟨gr, r, e1, hrw, hrd, e2⟩ := hw.p3 rfl
    simp only at e1 e2
    subst e1 e2
    have hrp := hr3 rfl (gr, r) rfl
    obtain ⟨dn, rpart, ep, place, sl, push, ct⟩ := r
    simp only at hrd hrp
    subst hrd
    have hpl := hrw.wf.place
    have hpt := hrw.wf.lt rfl
    simp only at hpl hpt
    have et : tkS (layF t s l b) t (i : Int) ⟨3, gu, pop, av, none, some (gr, ⟨false, rpart, ep, place, sl, push, ct⟩), dry, empty, gen⟩ st n1 n2 = tk3 ⟨3, gu, pop, av, none, some (gr, ⟨false, rpart, ep, place, sl, push, ct⟩), dry, empty, gen⟩ gr (rcS (layF t s l b) (i : Int) ⟨false, rpart, ep, place, sl, push, ct⟩ st n1) n2 := rfl
    have key : ∃ z : Int, ∃ y : RcM, rcS (layF t s l b) (i : Int) ⟨false, rpart, ep, place, sl, push, ct⟩ st n1 = (y, st.load (i : Int) z) ∧ (y.part = 0 ∨ y.part = 1) := by
      rcases hrp with rfl | rfl
      · exact ⟨_, _, rfl, Or.inr rfl⟩
      · obtain ⟨k, rfl⟩ := Int.eq_ofNat_of_zero_le hpl.1
        have hz := h.lg i k hi (by omega)
        have er : rcS (layF t s l b) (i : Int) ⟨false, 1, ep, (k : Int), sl, push, ct⟩ st n1 = (if overB ep (peekV st (logN (layF t s l b) i (k : Int))) = true then ⟨false, 2, ep, (k : Int), toN (peekV st (logN (layF t s l b) i (k : Int))), push, ct⟩ else ⟨decide (layF t s l b 2 ≤ (k : Int) + 1), 1, ep, (k : Int) + 1, sl, push, ct⟩, st.load (i : Int) (logN (layF t s l b) i (k : Int))) := rfl
        rw [hz, TA.over0, if_neg (by decide)] at er
        exact ⟨_, _, er, Or.inr rfl⟩
    obtain ⟨z, y, ey, hyp⟩ := key
    rw [et, ey] at hwf
    rw [et, ey]
    obtain ⟨x1, x2⟩ := nx_of (t := t) (s := s) (l := l) (b := b) (st := st) (st' := st.load (i : Int) z) (fun a _ => peekV_load _ _ _ _)
    unfold TakeLeft tk3 at *
    by_cases hd : y.dn = false
    · simp only [hd, if_true] at hwf ⊢
      exact ⟨fun _ => ⟨L, h.aside e rfl (okM.load _ _) x1 x2 (lgl z) ⟨hwf, by show (3 : Nat) ≠ 0; decide, fun _ q e => by injection e with e; subst e; exact hyp⟩⟩, fun e => absurd e (by show ¬ (3 : Nat) = 0; decide)⟩
    · have hd' : y.dn = true := by simpa using hd
      simp only [hd', Bool.true_eq_false, if_false] at hwf ⊢
      exact ⟨fun _ => ⟨L, h.aside e rfl (okM.load _ _) x1 x2 (lgl z) ⟨hwf, by show (4 : Nat) ≠ 0; decide, fun e => absurd e (by show ¬ (4 : Nat) = 3; decide)⟩⟩, fun e => absurd e (by show ¬ (4 : Nat) = 0; decide)⟩
  · -- 4
    obtain ⟨part, gu, pop, av, adv, rc, dry, empty, gen⟩ := x
    simp only at hp
    subst hp
    have e0 : (AHd.take gt ⟨4, gu, pop, av, adv, rc, dry, empty, gen⟩).al = ⟨true, 0, pop⟩ := rfl
    rw [e0] at hal
    obtain ⟨fa, fb⟩ := h.fm.pop hn (by omega) hU hal rfl (i : Int)
    have lg := (pops (Or.inr rfl)).2
    have hws := popS_wf (F := layF t s l b) (t := (i : Int)) hU hw.pop hc
    have was := popS_was (F := layF t s l b) (th := (i : Int)) okM (by omega) hw.pop (hw.p14 (Or.inr rfl))
    have et : tkS (layF t s l b) t (i : Int) ⟨4, gu, pop, av, adv, rc, dry, empty, gen⟩ st n1 n2 = tk4 ⟨4, gu, pop, av, adv, rc, dry, empty, gen⟩ (popS (layF t s l b) (i : Int) pop st) := rfl
    rw [et] at hwf ⊢
    have hch := h.fm.ch
    simp only at fa fb lg hws was
    generalize popS (layF t s l b) (i : Int) pop st = p at *
    unfold TakeLeft tk4 at *
    by_cases hd : p.1.dn = false
    · simp only [hd, if_true] at hwf ⊢
      refine ⟨fun _ => ⟨L, h.put hlt (fa hd) lg ⟨hwf, by show (4 : Nat) ≠ 0; decide, fun e => absurd e (by show ¬ (4 : Nat) = 3; decide)⟩⟩, fun e => absurd e (by show ¬ (4 : Nat) = 0; decide)⟩
    · have hd' : p.1.dn = true := by simpa using hd
      by_cases hs0 : toN p.1.top = -1
      · simp only [hd', hs0, if_true, Bool.true_eq_false, if_false] at hwf ⊢
        refine ⟨fun e => absurd rfl e, fun _ => Or.inl ⟨trivial, trivial, trivial, fun gt' gu' => ?_⟩⟩
        rcases fb hd' with ⟨_, f⟩ | ⟨a, L', ea, a0, _⟩
        · have hL : L = [] := by
            cases L with
            | nil => rfl
            | cons a L' =>
              exfalso
              have h1 : toN (peekV st (-2)) = a := hch.1
              rw [← was hd', hs0] at h1
              have := (h.fm.rng a (by simp)).1
              omega
          rw [hL] at f
          exact h.put hlt (f 0) lg new_ok
        · omega
      · simp only [hd', hs0, Bool.true_eq_false, if_false] at hwf ⊢
        refine ⟨fun _ => ?_, fun e => absurd e (by show ¬ (5 : Nat) = 0; decide)⟩
        rcases fb hd' with ⟨e2, _⟩ | ⟨a, L', ea, a0, a1, f⟩
        · exact absurd e2 hs0
        · refine ⟨L', h.put hlt ?_ lg ⟨hwf, by show (5 : Nat) ≠ 0; decide, fun e => absurd e (by show ¬ (5 : Nat) = 3; decide)⟩⟩
          have := f 0
          rw [← ea] at this
          exact this
  all_goals
    have h5 : 5 ≤ x.part := by omega
    obtain ⟨d1, d2⟩ := hw.p5 h5
    have ea : (AHd.take gt x).al = ⟨false, 0, ⟨0, 0, toN x.pop.top, false⟩⟩ := by
      show (if x.part = 1 ∨ x.part = 4 then _ else if 5 ≤ x.part then _ else _) = _
      rw [if_neg (by omega), if_pos h5]
    have hr := (h.fm.each i _ (by rw [hal, ea])).yr rfl
    simp only at hr
  · -- 5
    have et : tkS (layF t s l b) t (i : Int) x st n1 n2 = (x.to 6 x.gen, st.store (i : Int) (intN (layF t s l b) i) (toN x.pop.top + 1)) := by
      unfold tkS
      rw [hp]
      rfl
    rw [et] at hwf ⊢
    have pk : ∀ z : Int, z ≠ intN (layF t s l b) i → peekV (st.store (i : Int) (intN (layF t s l b) i) (toN x.pop.top + 1)) z = peekV st z := fun z hz => by rw [peekV_store okM (okM.is (by rw [eI]; omega) (by rw [eI, eN]; omega)), if_neg hz]
    obtain ⟨x1, x2⟩ := nx_of (t := t) (s := s) (l := l) (b := b) (st := st) (st' := st.store (i : Int) (intN (layF t s l b) i) (toN x.pop.top + 1)) (fun z hz => pk z (by rw [eI]; omega))
    exact ⟨fun _ => ⟨L, h.aside e (by rw [ea]; rfl) (okM.store _ _ _) x1 x2 (fun j m hj hm => by rw [pk _ (by rw [eL j m hj hm, eI]; omega)]; exact h.lg j m hj hm) ⟨hwf, by show (6 : Nat) ≠ 0; decide, fun e => absurd e (by show ¬ (6 : Nat) = 3; decide)⟩⟩, fun e => absurd e (by show ¬ (6 : Nat) = 0; decide)⟩
  · -- 6
    have et : tkS (layF t s l b) t (i : Int) x st n1 n2 = (x.to 7 x.gen, st.flush (i : Int) (intN (layF t s l b) i)) := by
      unfold tkS
      rw [hp]
      rfl
    rw [et] at hwf ⊢
    obtain ⟨x1, x2⟩ := nx_of (t := t) (s := s) (l := l) (b := b) (st := st) (st' := st.flush (i : Int) (intN (layF t s l b) i)) (fun z _ => peekV_flush _ _ _ _)
    exact ⟨fun _ => ⟨L, h.aside e (by rw [ea]; rfl) (okM.flush _ _) x1 x2 (fun j m hj hm => by rw [peekV_flush]; exact h.lg j m hj hm) ⟨hwf, by show (7 : Nat) ≠ 0; decide, fun e => absurd e (by show ¬ (7 : Nat) = 3; decide)⟩⟩, fun e => absurd e (by show ¬ (7 : Nat) = 0; decide)⟩
  · -- 7
    have et : tkS (layF t s l b) t (i : Int) x st n1 n2 = (x.to 8 x.gen, st.fence (i : Int)) := by
      unfold tkS
      rw [hp]
      rfl
    rw [et] at hwf ⊢
    obtain ⟨x1, x2⟩ := nx_of (t := t) (s := s) (l := l) (b := b) (st := st) (st' := st.fence (i : Int)) (fun z _ => peekV_fence _ _ _)
    exact ⟨fun _ => ⟨L, h.aside e (by rw [ea]; rfl) (okM.fence _) x1 x2 (fun j m hj hm => by rw [peekV_fence]; exact h.lg j m hj hm) ⟨hwf, by show (8 : Nat) ≠ 0; decide, fun e => absurd e (by show ¬ (8 : Nat) = 3; decide)⟩⟩, fun e => absurd e (by show ¬ (8 : Nat) = 0; decide)⟩
  · -- 8
    have et : tkS (layF t s l b) t (i : Int) x st n1 n2 = (x.to 9 (peekV st (genN (layF t s l b) (toN x.pop.top))), st.load (i : Int) (genN (layF t s l b) (toN x.pop.top))) := by
      unfold tkS
      rw [hp]
      rfl
    rw [et] at hwf ⊢
    obtain ⟨x1, x2⟩ := nx_of (t := t) (s := s) (l := l) (b := b) (st := st) (st' := st.load (i : Int) (genN (layF t s l b) (toN x.pop.top))) (fun z _ => peekV_load _ _ _ _)
    exact ⟨fun _ => ⟨L, h.aside e (by rw [ea]; rfl) (okM.load _ _) x1 x2 (lgl _) ⟨hwf, by show (9 : Nat) ≠ 0; decide, fun e => absurd e (by show ¬ (9 : Nat) = 3; decide)⟩⟩, fun e => absurd e (by show ¬ (9 : Nat) = 0; decide)⟩
  · -- 9
    obtain ⟨k, hk⟩ := Int.eq_ofNat_of_zero_le hr.1
    have eG := TA.gen_at (t := t) (s := s) (k := k) hb0 hb8 hl0 hl8 (by omega)
    rw [← hk] at eG
    have et : tkS (layF t s l b) t (i : Int) x st n1 n2 = (x.to 0 x.gen, st.store (i : Int) (genN (layF t s l b) (toN x.pop.top)) (IntKind.u64.wrap (x.gen + 1))) := by
      unfold tkS
      rw [hp]
      rfl
    rw [et] at hwf ⊢
    have pk : ∀ z : Int, z ≠ genN (layF t s l b) (toN x.pop.top) → peekV (st.store (i : Int) (genN (layF t s l b) (toN x.pop.top)) (IntKind.u64.wrap (x.gen + 1))) z = peekV st z := fun z hz => by rw [peekV_store okM (okM.is (by rw [eG]; omega) (by rw [eG, eN]; omega)), if_neg hz]
    obtain ⟨x1, x2⟩ := nx_of (t := t) (s := s) (l := l) (b := b) (st := st) (st' := st.store (i : Int) (genN (layF t s l b) (toN x.pop.top)) (IntKind.u64.wrap (x.gen + 1))) (fun z hz => pk z (by rw [eG]; omega))
    exact ⟨fun e => absurd rfl e, fun _ => Or.inr ⟨toN x.pop.top, L, rfl, hr.1, hr.2, fun gg gu => h.aside e (by rw [ea]; rfl) (okM.store _ _ _) x1 x2 (fun j m hj hm => by rw [pk _ (by rw [eL j m hj hm, eG]; omega)]; exact h.lg j m hj hm) (give_ok0 hr.1 (by omega))⟩⟩
/-- What a step of a Give at thread i leaves. -/
theorem FMA.give {hs : List AHd} {L : List Int} {st : MSt} {i gg gu : Nat} {x : GvM} {a : Int} (h : FMA t s l b n hs L st) (hf : FewC t s l b) (hn : n ≤ 1000) (hU : ∀ a, W64 (peekV st a)) {c : Int} (hc : CalmN c st) (e : hs[i]? = some (.give gg gu x a)) (hi : i < t) :
    ((gvS (layF t s l b) (i : Int) x st).1.push.dn = false → FMA t s l b (n + 1) (hs.set i (.give gg gu (gvS (layF t s l b) (i : Int) x st).1 a)) L (gvS (layF t s l b) (i : Int) x st).2) ∧
    ((gvS (layF t s l b) (i : Int) x st).1.push.dn = true → ∃ L', ∀ gt gu', FMA t s l b (n + 1) (hs.set i (.take gt ⟨1, gu', pm0, none, none, none, false, 0, 0⟩)) L' (gvS (layF t s l b) (i : Int) x st).2) := by
  obtain ⟨hb0, hb8, hl0, hl8, hs1⟩ := hf
  obtain ⟨hw, hy, hd, ha⟩ := h.ok i _ e
  have hlt : i < hs.length := (List.getElem?_eq_some_iff.1 e).1
  have okM : MOk (2 + t + s) (wN t s l b) st := h.fm.ok
  have eI := TA.int_at (s := s) (l := l) hb0 hb8 hi
  have eN := TA.wN_at (t := t) (s := s) hb0 hb8 hl0 hl8
  have eL : ∀ j m : Nat, j < t → m < l → logN (layF t s l b) j m = 48 + 8 * (t : Int) + 8 * (j : Int) + (m : Int) := fun j m hj hm => TA.log_at hb0 hb8 hl0 hl8 hj hm
  have hal := h.al_at e
  obtain ⟨dropped, push⟩ := x
  simp only at hw hy hd
  cases dropped
  · have et : gvS (layF t s l b) (i : Int) ⟨false, push⟩ st = (⟨true, push⟩, st.store (i : Int) (intN (layF t s l b) i) 0) := by
      unfold gvS
      rw [if_neg (by rw [hd]; decide)]
      rfl
    rw [et]
    have pk : ∀ z : Int, z ≠ intN (layF t s l b) i → peekV (st.store (i : Int) (intN (layF t s l b) i) 0) z = peekV st z := fun z hz => by rw [peekV_store okM (okM.is (by rw [eI]; omega) (by rw [eI, eN]; omega)), if_neg hz]
    obtain ⟨x1, x2⟩ := nx_of (t := t) (s := s) (l := l) (b := b) (st := st) (st' := st.store (i : Int) (intN (layF t s l b) i) 0) (fun z hz => pk z (by rw [eI]; omega))
    exact ⟨fun _ => h.aside e rfl (okM.store _ _ _) x1 x2 (fun j m hj hm => by rw [pk _ (by rw [eL j m hj hm, eI]; omega)]; exact h.lg j m hj hm) ⟨hw, hy, hd, ha⟩, fun e2 => by rw [hd] at e2; cases e2⟩
  · have et : gvS (layF t s l b) (i : Int) ⟨true, push⟩ st = (⟨true, (pushS (layF t s l b) (i : Int) push st).1⟩, (pushS (layF t s l b) (i : Int) push st).2) := by
      unfold gvS
      rw [if_neg (by rw [hd]; decide)]
      rfl
    rw [et]
    have e0 : (AHd.give gg gu ⟨true, push⟩ a).al = ⟨false, 0, push⟩ := rfl
    rw [e0] at hal
    have hr := (h.fm.each i _ hal).yr rfl
    simp only at hr
    obtain ⟨fa, fb⟩ := h.fm.push hn (by omega) hU hal rfl (i : Int)
    have hws := pushS_wf (F := layF t s l b) (t := (i : Int)) hU hw hc
    have hyy := pushS_y (F := layF t s l b) (t := (i : Int)) (y := push) (s := st)
    have ra := aft_at (t := t) (s := s) (l := l) (b := b) (n := push.y) (by omega) hr.2
    have lg : ∀ j m : Nat, j < t → m < l → peekV (pushS (layF t s l b) (i : Int) push st).2 (logN (layF t s l b) j m) = 0 := fun j m hj hm => by
      unfold pushS
      (repeat' split)
      · exact h.lg j m hj hm
      · show peekV (st.load (i : Int) (-2)) _ = 0
        rw [peekV_load]
        exact h.lg j m hj hm
      · show peekV (st.store (i : Int) (aft (layF t s l b) push.y) (toN push.top + 1)) _ = 0
        rw [ra, peekV_store okM (okM.is (by omega) (by omega)), if_neg (by rw [eL j m hj hm]; omega)]
        exact h.lg j m hj hm
      · show peekV (st.swap (i : Int) (-2) push.top (topN push.y (ver1 push.top))) (logN (layF t s l b) j m) = 0
        rw [peekV_swap okM (okM.is (by omega) (by omega)), if_neg (fun e2 => by have := eL j m hj hm; omega)]
        exact h.lg j m hj hm
    simp only at fa fb
    generalize pushS (layF t s l b) (i : Int) push st = p at *
    exact ⟨fun hd2 => h.put hlt (fa hd2) lg ⟨hws.1, hyy.trans hy, hd2, ha⟩, fun hd2 => ⟨_, fun gt gu' => h.put hlt (fb hd2 0) lg new_ok⟩⟩
end
end Go.Proofs.YtfjfeomkmhbpbaaGreat


/- Several Takes and Gives between one another: how they lie in memory, and what a step of one leaves; whether each slot is free, or held by one. Conditions: those that each theorem names. -/
namespace Go.Proofs.YtfjfeomkmhbpbaaGreat
open Go.ChangeShapes Go.WideShapes Go.ChangeAt Go.RowKit
set_option linter.unusedVariables false
/-- A Take's own blocks. -/
structure TkB (w : World) (gt gl : Nat) (t : Int) (x : TkM) : Prop where
  blk : Blk w gt 170 (x.cells gl gt t)
  pop : Blk w x.gu 245 (x.pop.cells gl t)
  adv : ∀ q, x.adv = some q → Blk w q.1 272 (q.2.cells gl t)
  rc : ∀ q, x.rc = some q → Blk w q.1 230 (q.2.cells gl t)
  push : ∀ q p, x.rc = some q → q.2.push = some p → Blk w p.1 237 (p.2.cells gl t)
def AHd.ownB : AHd → Nat → Prop
  | .idle, _ => False
  | .take gt x, b => b = gt ∨ x.ownB b
  | .give gg gu _ _, b => b = gg ∨ b = gu
def AHd.cells : AHd → List Value
  | .idle => [.pointer none, .pointer none]
  | .take gt _ => [.pointer (some ⟨gt, 0, none⟩), .pointer none]
  | .give gg _ _ _ => [.pointer none, .pointer (some ⟨gg, 0, none⟩)]
def AHd.At (w : World) (gl : Nat) (t : Int) : AHd → Prop
  | .idle => True
  | .take gt x => TkB w gt gl t x
  | .give gg gu x a => Blk w gg 164 (gvCells gl gu t a x.dropped) ∧ Blk w gu 237 (x.push.cells gl t)
theorem AHd.At.kept {w w' : World} {gl : Nat} {t : Int} {h : AHd} (a : h.At w gl t) (k : ∀ b, h.ownB b → w'.heap[b]? = w.heap[b]?) : h.At w' gl t := by
  cases h with
  | idle => trivial
  | give gg gu x y => exact ⟨(k gg (Or.inl rfl)).trans a.1, (k gu (Or.inr rfl)).trans a.2⟩
  | take gt x => exact ⟨(k gt (Or.inl rfl)).trans a.blk, (k x.gu (Or.inr (Or.inl rfl))).trans a.pop, fun q e => (k q.1 (Or.inr (Or.inr (Or.inl ⟨q, e, rfl⟩)))).trans (a.adv q e), fun q e => (k q.1 (Or.inr (Or.inr (Or.inr ⟨q, e, Or.inl rfl⟩)))).trans (a.rc q e), fun q p e ep => (k p.1 (Or.inr (Or.inr (Or.inr ⟨q, e, Or.inr ⟨p, ep, rfl⟩⟩)))).trans (a.push q p e ep)⟩
structure AMAt (w1 w : World) (gm : Nat) (dv pv : Value) (gl gh : Nat) (F : Nat → Int) (rows : List (List Value)) (hs : List AHd) (s : MSt) : Prop where
  m : IsMem (fun q => q = gl ∨ q = gh ∨ ∃ (i : Nat) (h : AHd), hs[i]? = some h ∧ h.ownB q) w w1 w gm dv pv s
  l : Blk w gl 205 (cellsF F)
  h : Blk w gh 96 rows.flatten
  a : ∀ (i : Nat) (h : AHd), hs[i]? = some h → h.At w gl (i : Int)
  o : ∀ (i : Nat) (h : AHd) (b : Nat), hs[i]? = some h → h.ownB b → b ≠ gl ∧ b ≠ gh ∧ w1.heap.size ≤ b
  d : ∀ (i j : Nat) (h h' : AHd) (b : Nat), hs[i]? = some h → hs[j]? = some h' → h.ownB b → h'.ownB b → i = j
  lh : gl ≠ gh
  gh0 : w1.heap.size ≤ gh
section
variable {w1 w w' : World} {gm gl gh : Nat} {dv pv : Value} {F : Nat → Int} {rows : List (List Value)} {hs : List AHd} {s s' : MSt}
theorem AMAt.lt (h : AMAt w1 w gm dv pv gl gh F rows hs s) {i : Nat} {x : AHd} {b : Nat} (e : hs[i]? = some x) (hb : x.ownB b) : b < w.heap.size := h.m.lt.2 b (Or.inr (Or.inr ⟨i, x, e, hb⟩))
theorem AMAt.ext (h : AMAt w1 w gm dv pv gl gh F rows hs s) (x : Ext w w') : AMAt w1 w' gm dv pv gl gh F rows hs s :=
  ⟨(h.m.ext x).here, h.l.ext x, h.h.ext x, fun i y e => (h.a i y e).kept (fun b hb => x.block b (h.lt e hb)), h.o, h.d, h.lh, h.gh0⟩
theorem set_or {i j : Nat} {h' y : AHd} (hi : i < hs.length) (e : (hs.set i h')[j]? = some y) : (j = i ∧ y = h') ∨ (j ≠ i ∧ hs[j]? = some y) := by
  rw [set_get _ _ _ _ hi] at e
  by_cases ej : j = i
  · rw [if_pos ej] at e
    injection e with e
    exact Or.inl ⟨ej, e.symm⟩
  · rw [if_neg ej] at e
    exact Or.inr ⟨ej, e⟩
/-- A thread has new machines. -/
theorem AMAt.new (h : AMAt w1 w gm dv pv gl gh F rows hs s) (x : Ext w w') {i : Nat} {h' : AHd} (hi : i < hs.length) (ha : h'.At w' gl (i : Int)) (ho : ∀ b, h'.ownB b → w.heap.size ≤ b ∧ b < w'.heap.size) : AMAt w1 w' gm dv pv gl gh F rows (hs.set i h') s := by
  have hgl := h.l.lt
  have hgh := h.h.lt
  have hw1 := h.m.lt.1.size
  refine ⟨h.m.hold x (fun b hb => ?_), h.l.ext x, h.h.ext x, fun j y e => ?_, fun j y b e hb => ?_, fun j k y z b e1 e2 b1 b2 => ?_, h.lh, h.gh0⟩
  · rcases hb with e | e | ⟨j, y, e, hb⟩
    · rw [e]; exact ⟨Nat.lt_of_lt_of_le hgl x.size, Or.inl (Or.inl rfl)⟩
    · rw [e]; exact ⟨Nat.lt_of_lt_of_le hgh x.size, Or.inl (Or.inr (Or.inl rfl))⟩
    · rcases set_or hi e with ⟨_, ey⟩ | ⟨_, ey⟩
      · rw [ey] at hb
        exact ⟨(ho b hb).2, Or.inr (ho b hb).1⟩
      · exact ⟨Nat.lt_of_lt_of_le (h.lt ey hb) x.size, Or.inl (Or.inr (Or.inr ⟨j, y, ey, hb⟩))⟩
  · rcases set_or hi e with ⟨ej, ey⟩ | ⟨_, ey⟩
    · rw [ej, ey]; exact ha
    · exact (h.a j y ey).kept (fun b hb => x.block b (h.lt ey hb))
  · rcases set_or hi e with ⟨ej, ey⟩ | ⟨_, ey⟩
    · rw [ey] at hb
      have := (ho b hb).1
      exact ⟨by omega, by omega, by omega⟩
    · exact h.o j y b ey hb
  · rcases set_or hi e1 with ⟨j1, y1⟩ | ⟨j1, y1⟩ <;> rcases set_or hi e2 with ⟨j2, y2⟩ | ⟨j2, y2⟩
    · omega
    · rw [y1] at b1
      have := (ho b b1).1
      have := h.lt y2 b2
      omega
    · rw [y2] at b2
      have := (ho b b2).1
      have := h.lt y1 b1
      omega
    · exact h.d j k y z b y1 y2 b1 b2
theorem AMAt.turn (h : AMAt w1 w gm dv pv gl gh F rows hs s) (f : Fr (fun b => b = gh) w w') {rows' : List (List Value)} (hb : Blk w' gh 96 rows'.flatten) : AMAt w1 w' gm dv pv gl gh F rows' hs s := by
  have kp : ∀ b, b ≠ gh → b < w.heap.size → w'.heap[b]? = w.heap[b]? := fun b hb hlt => f.block b hlt hb
  exact ⟨h.m.turn f (fun b e => Or.inr (Or.inl e)) (fun b e => by rw [e]; exact h.gh0), (kp gl h.lh h.l.lt).trans h.l, hb, fun i y e => (h.a i y e).kept (fun b hb => kp b (h.o i y b e hb).2.1 (h.lt e hb)), h.o, h.d, h.lh, h.gh0⟩
theorem AMAt.put (h : AMAt w1 w gm dv pv gl gh F rows hs s) (hl : ∀ r ∈ rows, r.length = 2) {i f : Nat} {r : List Value} (hf : f < 2) (e : rows[i]? = some r) (v : Value) :
    AMAt w1 (w.setCell ⟨gh, i * 2 + f, none⟩ v) gm dv pv gl gh F (rows.set i (r.set f v)) hs s :=
  h.turn (Fr.setCell (S := fun b => b = gh) (p := ⟨gh, i * 2 + f, none⟩) (Fr.refl _ w) (Or.inl rfl) _) (by
    rw [← flat_set rows i f v r hl hf e]
    exact h.h.set (i * 2 + f) v)
end
section
variable {w1 w : World} {gm gl gh : Nat} {dv pv : Value} {F : Nat → Int} {rows : List (List Value)} {hs : List AHd} {st : MSt} {t l : Nat}
end
section
variable {Q : Nat → Prop} {wb w0 w : World} {gm gl gh : Nat} {dv pv : Value} {st : MSt} {F : Nat → Int}
end
end Go.Proofs.YtfjfeomkmhbpbaaGreat


/- Several Takes and Gives between one another: their beginning. Conditions: those that each theorem names. -/
namespace Go.Proofs.YtfjfeomkmhbpbaaGreat
open Go.ChangeShapes Go.WideShapes Go.ChangeAt Go.RowKit
set_option linter.unusedVariables false
end Go.Proofs.YtfjfeomkmhbpbaaGreat


/- A Give's step: how many lines are flushed, the clock. Conditions: those that each theorem names. -/
namespace Go.Proofs.YtfjfeomkmhbpbaaGreat
open Go.ChangeShapes Go.WideShapes Go.ChangeAt Go.RowKit
set_option linter.unusedVariables false
theorem gvS_calm {F : Nat → Int} {t n : Int} {x : GvM} {s : MSt} (hU : ∀ a, W64 (peekV s a)) (hx : x.push.Wf) (hc : CalmN n s) : CalmN (n + 1) (gvS F t x s).2 := by
  unfold gvS
  (repeat' split)
  · exact hc.mono (by omega)
  · exact (pushS_wf hU hx hc).2
  · exact hc.store _ _ _
end Go.Proofs.YtfjfeomkmhbpbaaGreat

