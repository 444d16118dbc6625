/- Several threads that take slots and give them back between one another: what holds, and what a step keeps. Conditions: those that each theorem names. -/
import Derived.Test.YtfjfeomkmhbpbaaGreatKFM
namespace Go.Proofs.YtfjfeomkmhbpbaaGreat
open Go.ChangeShapes Go.WideShapes Go.ChangeAt Go.RowKit
set_option linter.unusedVariables false
/-- Slots that hang together. -/
def IsCh (nx : Int → Int) : Int → List Int → Prop
  | cur, [] => cur = -1
  | cur, a :: L => cur = a ∧ IsCh nx (nx a) L
theorem IsCh.turn {nx nx' : Int → Int} : ∀ (L : List Int) (cur : Int), IsCh nx cur L → (∀ x ∈ L, nx' x = nx x) → IsCh nx' cur L
  | [], cur, h, _ => h
  | a :: L, cur, h, hx => by
    refine ⟨h.1, ?_⟩
    rw [hx a (by simp)]
    exact IsCh.turn L _ h.2 (fun x m => hx x (by simp [m]))
/-- A thread: does it take, which machine it has, and how that stands; it gives back the machine's slot. -/
structure Hd where
  pop : Bool
  g : Nat
  x : PMs
def had1 (k : Int) (h : Hd) : Nat := if h.pop = true then 0 else if h.x.y = k then 1 else 0
def hadC (k : Int) : List Hd → Nat
  | [] => 0
  | h :: hs => had1 k h + hadC k hs
theorem hadC_set (k : Int) : ∀ (hs : List Hd) (i : Nat) (h h' : Hd), hs[i]? = some h → hadC k (hs.set i h') + had1 k h = hadC k hs + had1 k h'
  | [], i, h, h', e => by simp at e
  | a :: hs, 0, h, h', e => by
    simp at e
    subst e
    simp only [List.set_cons_zero, hadC]
    omega
  | a :: hs, i + 1, h, h', e => by
    simp at e
    have := hadC_set k hs i h h' e
    simp only [List.set_cons_succ, hadC]
    omega
theorem hadC_one {k : Int} : ∀ {hs : List Hd} {i : Nat} {h : Hd}, hs[i]? = some h → had1 k h ≤ hadC k hs
  | [], i, h, e => by simp at e
  | a :: hs, 0, h, e => by
    simp at e
    subst e
    simp only [hadC]
    omega
  | a :: hs, i + 1, h, e => by
    simp at e
    have := hadC_one (k := k) e
    simp only [hadC]
    omega
theorem hadC_two {k : Int} : ∀ {hs : List Hd} {i j : Nat} {h h' : Hd}, hs[i]? = some h → hs[j]? = some h' → i ≠ j → had1 k h + had1 k h' ≤ hadC k hs
  | [], i, j, h, h', e, _, _ => by simp at e
  | a :: hs, 0, 0, h, h', e, e', n => absurd rfl n
  | a :: hs, 0, j + 1, h, h', e, e', n => by
    simp at e e'
    subst e
    have := hadC_one (k := k) e'
    simp only [hadC]
    omega
  | a :: hs, i + 1, 0, h, h', e, e', n => by
    simp at e e'
    subst e'
    have := hadC_one (k := k) e
    simp only [hadC]
    omega
  | a :: hs, i + 1, j + 1, h, h', e, e', n => by
    simp at e e'
    have := hadC_two (k := k) e e' (by omega)
    simp only [hadC]
    omega
/-- How one thread's machine stands. -/
structure HI (F : Nat → Int) (s : Nat) (st : MSt) (h : Hd) : Prop where
  dn : h.x.dn = false
  wf : h.x.Wf
  yr : h.pop = false → 0 ≤ h.x.y ∧ h.x.y < (s : Int)
  top : h.x.part ≠ 0 → verN h.x.top ≤ verN (peekV st (-2)) ∧ (verN h.x.top = verN (peekV st (-2)) → h.x.top = peekV st (-2))
  p1 : h.pop = true → h.x.part ≠ 0 → 0 ≤ toN h.x.top
  p2 : h.pop = true → h.x.part = 2 → h.x.top = peekV st (-2) → h.x.y = nextS F st (toN (peekV st (-2)))
  q2 : h.pop = false → h.x.part = 2 → nextS F st h.x.y = toN h.x.top
theorem HI.new (F : Nat → Int) (s : Nat) (st : MSt) (g : Nat) : HI F s st ⟨true, g, ⟨0, 0, 0, false⟩⟩ :=
  ⟨rfl, PMs.wf0, fun e => by simp at e, fun e => absurd rfl e, fun _ e => absurd rfl e, fun _ e => by simp at e, fun e => by simp at e⟩
theorem HI.newPush (F : Nat → Int) (s : Nat) (st : MSt) (g : Nat) {a : Int} (h0 : 0 ≤ a) (h1 : a < (s : Int)) (hs : (s : Int) ≤ 1000000) : HI F s st ⟨false, g, ⟨0, 0, a, false⟩⟩ :=
  ⟨rfl, ⟨Or.inl rfl, ⟨Int.le_refl 0, by show (0 : Int) < _; decide⟩, ⟨by show _ ≤ a; omega, by show a < _; omega⟩⟩, fun _ => ⟨h0, h1⟩, fun e => absurd rfl e, fun e => by simp at e, fun e => by simp at e, fun _ e => by simp at e⟩
theorem HI.same {F : Nat → Int} {s : Nat} {st st' : MSt} {h : Hd} (k : HI F s st h) (ht : peekV st' (-2) = peekV st (-2)) (hn : ∀ a, (h.pop = true ∧ a = toN (peekV st (-2)) ∧ 0 ≤ a) ∨ (h.pop = false ∧ a = h.x.y) → nextS F st' a = nextS F st a) : HI F s st' h :=
  ⟨k.dn, k.wf, k.yr, fun e => by rw [ht]; exact k.top e, k.p1, fun e e2 e3 => by
    rw [ht] at e3 ⊢
    have h0 := k.p1 e (by rw [e2]; decide)
    rw [e3] at h0
    rw [hn _ (Or.inl ⟨e, rfl, h0⟩)]
    exact k.p2 e e2 e3, fun e e2 => by
    rw [hn _ (Or.inr ⟨e, rfl⟩)]
    exact k.q2 e e2⟩
theorem HI.next {F : Nat → Int} {s : Nat} {st st' : MSt} {h : Hd} (k : HI F s st h) (ht : verN (peekV st' (-2)) = verN (peekV st (-2)) + 1) (hn : h.pop = false → nextS F st' h.x.y = nextS F st h.x.y) : HI F s st' h :=
  ⟨k.dn, k.wf, k.yr, fun e => by
    have := (k.top e).1
    exact ⟨by omega, fun e2 => by omega⟩, k.p1, fun e e2 e3 => by
    have := (k.top (by rw [e2]; decide)).1
    rw [e3] at this
    omega, fun e e2 => by
    rw [hn e]
    exact k.q2 e e2⟩
theorem nextS_r {F : Nat → Int} {st : MSt} (hU : ∀ a, W64 (peekV st a)) (a : Int) : -1 ≤ nextS F st a ∧ nextS F st a < 4294967295 := toN_rng (hU _)
section
variable {t s l b n : Nat}
/-- What holds of all of them. -/
structure FM (t s l b n : Nat) (hs : List Hd) (L : List Int) (st : MSt) : Prop where
  ok : MOk (2 + t + s) (wN t s l b) st
  ch : IsCh (nextS (layF t s l b) st) (toN (peekV st (-2))) L
  v : verN (peekV st (-2)) ≤ (n : Int)
  rng : ∀ x ∈ L, 0 ≤ x ∧ x < (s : Int)
  cnt : ∀ k : Int, 0 ≤ k → k < (s : Int) → L.count k + hadC k hs = 1
  each : ∀ (i : Nat) (h : Hd), hs[i]? = some h → HI (layF t s l b) s st h
theorem next_same {st st' : MSt} {k : Int} (h0 : 0 ≤ k) (h1 : k < (s : Int)) (h : peekV st' (-3 - (t : Int) - k) = peekV st (-3 - (t : Int) - k)) : nextS (layF t s l b) st' k = nextS (layF t s l b) st k := by
  unfold nextS
  rw [aft_at h0 h1, h]
theorem FM.head {hs : List Hd} {L : List Int} {st : MSt} (h : FM t s l b n hs L st) (h0 : 0 ≤ toN (peekV st (-2))) : ∃ L', L = toN (peekV st (-2)) :: L' ∧ IsCh (nextS (layF t s l b) st) (nextS (layF t s l b) st (toN (peekV st (-2)))) L' := by
  cases L with
  | nil => have e : toN (peekV st (-2)) = -1 := h.ch; omega
  | cons a L' =>
    obtain ⟨e, h2⟩ := h.ch
    refine ⟨L', by rw [← e], ?_⟩
    rw [e]
    exact h2
/-- A step by which no word that matters is turned. -/
theorem FM.calm {hs : List Hd} {L : List Int} {st st' : MSt} (h : FM t s l b n hs L st) (ok : MOk (2 + t + s) (wN t s l b) st') (hp : ∀ a, peekV st' a = peekV st a) {i : Nat} {h' : Hd} {h0 : Hd} (e0 : hs[i]? = some h0) (hi : HI (layF t s l b) s st h') (hc : ∀ k, had1 k h' = had1 k h0) : FM t s l b (n + 1) (hs.set i h') L st' := by
  have hlt : i < hs.length := (List.getElem?_eq_some_iff.1 e0).1
  have nx : ∀ a, nextS (layF t s l b) st' a = nextS (layF t s l b) st a := fun a => by unfold nextS; rw [hp]
  refine ⟨ok, ?_, by rw [hp]; have := h.v; omega, h.rng, fun k k0 k1 => ?_, fun j hj e => ?_⟩
  · rw [hp]
    exact h.ch.turn _ _ (fun x _ => nx x)
  · have h1 := h.cnt k k0 k1
    have h2 := hadC_set k hs i h0 h' e0
    rw [hc k] at h2
    omega
  · rw [set_get _ _ _ _ hlt] at e
    by_cases ej : j = i
    · rw [if_pos ej] at e
      injection e with e
      subst e
      exact hi.same (hp _) (fun a _ => nx a)
    · rw [if_neg ej] at e
      exact (h.each j hj e).same (hp _) (fun a _ => nx a)
theorem verN_top {a v : Int} (h0 : -1 ≤ a) (h1 : a < 4294967295) (v0 : 0 ≤ v) (v1 : v < 4294967296) : verN (topN a v) = v := by unfold verN topN; omega
theorem ver1_small {x : Int} (hx : W64 x) (h : verN x < 4294967295) : ver1 x = verN x + 1 := by
  have := (verN_rng hx).1
  unfold ver1
  omega
/-- A step of a thread that takes. -/
theorem FM.pop {hs : List Hd} {L : List Int} {st : MSt} (h : FM t s l b n hs L st) (hn : n ≤ 1000) (hs1 : s ≤ 1000000) (hU : ∀ a, W64 (peekV st a)) {i : Nat} {h0 : Hd} (e0 : hs[i]? = some h0) (hp : h0.pop = true) (th : Int) :
    ((popS (layF t s l b) th h0.x st).1.dn = false → FM t s l b (n + 1) (hs.set i ⟨true, h0.g, (popS (layF t s l b) th h0.x st).1⟩) L (popS (layF t s l b) th h0.x st).2) ∧
    ((popS (layF t s l b) th h0.x st).1.dn = true → (toN (popS (layF t s l b) th h0.x st).1.top = -1 ∧ ∀ g, FM t s l b (n + 1) (hs.set i ⟨true, g, ⟨0, 0, 0, false⟩⟩) L (popS (layF t s l b) th h0.x st).2) ∨
      ∃ (a : Int) (L' : List Int), toN (popS (layF t s l b) th h0.x st).1.top = a ∧ 0 ≤ a ∧ a < (s : Int) ∧ ∀ g, FM t s l b (n + 1) (hs.set i ⟨false, g, ⟨0, 0, a, false⟩⟩) L' (popS (layF t s l b) th h0.x st).2) := by
  have hi := h.each i h0 e0
  have hlt : i < hs.length := (List.getElem?_eq_some_iff.1 e0).1
  have hx := hi.wf
  obtain ⟨pp, g0, ⟨part, top, y, dn⟩⟩ := h0
  simp only at hp
  subst hp
  have hd : dn = false := hi.dn
  subst hd
  have hT := hU (-2)
  have had0 : ∀ k, had1 k ⟨true, g0, ⟨part, top, y, false⟩⟩ = 0 := fun k => by unfold had1; rw [if_pos rfl]
  rcases hx.part with e | e | e
  · have e' : part = 0 := e
    subst e'
    obtain ⟨T, hTe⟩ : ∃ T, peekV st (-2) = T := ⟨_, rfl⟩
    have es : popS (layF t s l b) th ⟨0, top, y, false⟩ st = (⟨1, T, y, toN T == -1⟩, st.load th (-2)) := by
      rw [← hTe]
      rfl
    show ((popS (layF t s l b) th ⟨0, top, y, false⟩ st).1.dn = false → _) ∧ _
    rw [es]
    refine ⟨fun hd => ?_, fun hd => Or.inl ?_⟩
    · have hne : toN T ≠ -1 := by simpa using hd
      have hr := toN_rng hT
      rw [hTe] at hr
      refine h.calm (h.ok.load _ _) (peekV_load st th (-2)) e0 ⟨hd, ⟨Or.inr (Or.inl rfl), by show W64 T; rw [← hTe]; exact hT, hx.y⟩, fun e => by simp at e, fun _ => ?_, fun _ _ => ?_, fun _ e => by simp at e, fun e => by simp at e⟩ (fun k => by rw [had0]; rfl)
      · rw [hTe]
        exact ⟨Int.le_refl _, fun _ => rfl⟩
      · show 0 ≤ toN T
        omega
    · have he : toN T = -1 := by simpa using hd
      exact ⟨he, fun g => h.calm (h.ok.load _ _) (peekV_load st th (-2)) e0 (HI.new _ _ _ _) (fun k => by rw [had0]; rfl)⟩
  · have e' : part = 1 := e
    subst e'
    have es : popS (layF t s l b) th ⟨1, top, y, false⟩ st = (⟨2, top, nextS (layF t s l b) st (toN top), false⟩, st.load th (aft (layF t s l b) (toN top))) := rfl
    show ((popS (layF t s l b) th ⟨1, top, y, false⟩ st).1.dn = false → _) ∧ _
    rw [es]
    refine ⟨fun _ => ?_, fun e => by simp at e⟩
    have hr := toN_rng (hU (aft (layF t s l b) (toN top)))
    refine h.calm (h.ok.load _ _) (peekV_load st th _) e0 ⟨rfl, ⟨Or.inr (Or.inr rfl), hx.top, ⟨by show _ ≤ toN (peekV st (aft (layF t s l b) (toN top))); omega, by show toN (peekV st (aft (layF t s l b) (toN top))) < _; omega⟩⟩, fun e => by simp at e, fun _ => hi.top (by show (1 : Int) ≠ 0; decide), fun _ _ => hi.p1 rfl (by show (1 : Int) ≠ 0; decide), fun _ _ e => ?_, fun e => by simp at e⟩ (fun k => by rw [had0]; rfl)
    have e1 : top = peekV st (-2) := e
    show nextS (layF t s l b) st (toN top) = _
    rw [e1]
  · have e' : part = 2 := e
    subst e'
    have hq : peekB st (-2) = true := h.ok.is (by omega) (by omega)
    have es : popS (layF t s l b) th ⟨2, top, y, false⟩ st = (⟨0, top, y, swapB st (-2) top⟩, st.swap th (-2) top (topN y (ver1 top))) := rfl
    show ((popS (layF t s l b) th ⟨2, top, y, false⟩ st).1.dn = false → _) ∧ _
    rw [es, swapB_is hq]
    have pk : ∀ a, peekV (st.swap th (-2) top (topN y (ver1 top))) a = if a = -2 ∧ peekV st (-2) = top then topN y (ver1 top) else peekV st a := fun a => peekV_swap h.ok hq th top _ a
    refine ⟨fun hd => ?_, fun hd => Or.inr ?_⟩
    · have hne : ¬ peekV st (-2) = top := by simpa using hd
      refine h.calm (h.ok.swap _ _ _ _) (fun a => by rw [pk, if_neg (fun e => hne e.2)]) e0 ⟨hd, ⟨Or.inl rfl, hx.top, hx.y⟩, fun e => by simp at e, fun e => absurd rfl e, fun _ e => absurd rfl e, fun _ e => by simp at e, fun e => by simp at e⟩ (fun k => by rw [had0]; rfl)
    · have he : peekV st (-2) = top := by simpa using hd
      have a0 : 0 ≤ toN top := hi.p1 rfl (by show (2 : Int) ≠ 0; decide)
      have hy : y = nextS (layF t s l b) st (toN (peekV st (-2))) := hi.p2 rfl rfl he.symm
      obtain ⟨L', hL, hch⟩ := h.head (by rw [he]; exact a0)
      rw [he] at hL hch hy
      rw [← hy] at hch
      have hya := nextS_r (F := layF t s l b) hU (toN top)
      rw [← hy] at hya
      have hv := h.v
      rw [he] at hv
      have hw := hU (-2)
      rw [he] at hw
      have hv1 := ver1_small hw (by omega)
      have hv0 := (verN_rng hw).1
      have tn : toN (topN y (ver1 top)) = y := toN_top hya.1 hya.2
      have vn : verN (topN y (ver1 top)) = verN top + 1 := by rw [verN_top hya.1 hya.2 (by omega) (by omega), hv1]
      have p2 : peekV (st.swap th (-2) top (topN y (ver1 top))) (-2) = topN y (ver1 top) := by rw [pk, if_pos ⟨rfl, he⟩]
      have nx : ∀ k, 0 ≤ k → k < (s : Int) → nextS (layF t s l b) (st.swap th (-2) top (topN y (ver1 top))) k = nextS (layF t s l b) st k := fun k k0 k1 => next_same k0 k1 (by rw [pk, if_neg (fun e => by have := e.1; omega)])
      have ra := h.rng (toN top) (by rw [hL]; simp)
      refine ⟨toN top, L', rfl, a0, ra.2, fun g => ⟨h.ok.swap _ _ _ _, ?_, by rw [p2, vn]; omega, fun x m => h.rng x (by rw [hL]; simp [m]), fun k k0 k1 => ?_, fun j hj ej => ?_⟩⟩
      · rw [p2, tn]
        exact hch.turn _ _ (fun x m => by
          have := h.rng x (by rw [hL]; simp [m])
          exact nx x this.1 this.2)
      · have h1 := h.cnt k k0 k1
        have h2 := hadC_set k hs i _ ⟨false, g, ⟨0, 0, toN top, false⟩⟩ e0
        rw [hL, List.count_cons] at h1
        rw [had0] at h2
        have h3 : had1 k ⟨false, g, ⟨0, 0, toN top, false⟩⟩ = if toN top = k then 1 else 0 := by unfold had1; rw [if_neg (by simp)]
        rw [h3] at h2
        by_cases ek : toN top = k
        · rw [if_pos ek] at h2
          rw [if_pos (by simpa using ek)] at h1
          omega
        · rw [if_neg ek] at h2
          rw [if_neg (by simpa using ek)] at h1
          omega
      · rw [set_get _ _ _ _ hlt] at ej
        by_cases eji : j = i
        · rw [if_pos eji] at ej
          injection ej with ej
          subst ej
          exact HI.newPush _ _ _ _ a0 ra.2 (by omega)
        · rw [if_neg eji] at ej
          have kj := h.each j hj ej
          exact kj.next (by rw [p2, vn, he]) (fun e => nx _ (kj.yr e).1 (kj.yr e).2)
/-- A step of a thread that gives back. -/
theorem FM.push {hs : List Hd} {L : List Int} {st : MSt} (h : FM t s l b n hs L st) (hn : n ≤ 1000) (hs1 : s ≤ 1000000) (hU : ∀ a, W64 (peekV st a)) {i : Nat} {h0 : Hd} (e0 : hs[i]? = some h0) (hp : h0.pop = false) (th : Int) :
    ((pushS (layF t s l b) th h0.x st).1.dn = false → FM t s l b (n + 1) (hs.set i ⟨false, h0.g, (pushS (layF t s l b) th h0.x st).1⟩) L (pushS (layF t s l b) th h0.x st).2) ∧
    ((pushS (layF t s l b) th h0.x st).1.dn = true → ∀ g, FM t s l b (n + 1) (hs.set i ⟨true, g, ⟨0, 0, 0, false⟩⟩) (h0.x.y :: L) (pushS (layF t s l b) th h0.x st).2) := by
  have hi := h.each i h0 e0
  have hlt : i < hs.length := (List.getElem?_eq_some_iff.1 e0).1
  have hx := hi.wf
  have yr := hi.yr hp
  obtain ⟨pp, g0, ⟨part, top, y, dn⟩⟩ := h0
  simp only at hp yr
  subst hp
  have hd : dn = false := hi.dn
  subst hd
  have hT := hU (-2)
  have had0 : ∀ (k : Int) (g : Nat) (p v : Int) (d : Bool), had1 k ⟨false, g, ⟨p, v, y, d⟩⟩ = if y = k then 1 else 0 := fun k g p v d => by unfold had1; rw [if_neg (by simp)]
  rcases hx.part with e | e | e
  · have e' : part = 0 := e
    subst e'
    have es : pushS (layF t s l b) th ⟨0, top, y, false⟩ st = (⟨1, peekV st (-2), y, false⟩, st.load th (-2)) := rfl
    show ((pushS (layF t s l b) th ⟨0, top, y, false⟩ st).1.dn = false → _) ∧ _
    rw [es]
    refine ⟨fun hd => ?_, fun hd => by simp at hd⟩
    exact h.calm (h.ok.load _ _) (peekV_load st th (-2)) e0 ⟨rfl, ⟨Or.inr (Or.inl rfl), hT, hx.y⟩, fun _ => yr, fun _ => ⟨Int.le_refl _, fun _ => rfl⟩, fun e => by simp at e, fun e => by simp at e, fun _ e => by simp at e⟩ (fun k => by rw [had0, had0])
  · have e' : part = 1 := e
    subst e'
    have es : pushS (layF t s l b) th ⟨1, top, y, false⟩ st = (⟨2, top, y, false⟩, st.store th (aft (layF t s l b) y) (toN top + 1)) := rfl
    show ((pushS (layF t s l b) th ⟨1, top, y, false⟩ st).1.dn = false → _) ∧ _
    rw [es]
    refine ⟨fun _ => ?_, fun e => by simp at e⟩
    have ha : aft (layF t s l b) y = -3 - (t : Int) - y := aft_at yr.1 yr.2
    have hq : peekB st (aft (layF t s l b) y) = true := by rw [ha]; exact h.ok.is (by omega) (by omega)
    have pk : ∀ a, peekV (st.store th (aft (layF t s l b) y) (toN top + 1)) a = if a = aft (layF t s l b) y then toN top + 1 else peekV st a := fun a => peekV_store h.ok hq th _ a
    have tr := toN_rng hx.top
    have p2 : peekV (st.store th (aft (layF t s l b) y) (toN top + 1)) (-2) = peekV st (-2) := by rw [pk, if_neg (by rw [ha]; omega)]
    have nx : ∀ k, 0 ≤ k → k < (s : Int) → k ≠ y → nextS (layF t s l b) (st.store th (aft (layF t s l b) y) (toN top + 1)) k = nextS (layF t s l b) st k := fun k k0 k1 k2 => next_same k0 k1 (by rw [pk, if_neg (by rw [ha]; omega)])
    have ny : nextS (layF t s l b) (st.store th (aft (layF t s l b) y) (toN top + 1)) y = toN top := by
      unfold nextS
      rw [pk, if_pos rfl]
      have e2 := toN_small (x := toN top + 1) (by simp only at tr; omega) (by simp only at tr; omega)
      rw [e2]
      omega
    have hny : y ∉ L := fun m => by
      have h1 := h.cnt y yr.1 yr.2
      have h2 := hadC_one (k := y) e0
      rw [had0, if_pos rfl] at h2
      have := List.count_pos_iff.2 m
      omega
    have oth : ∀ j hj, j ≠ i → hs[j]? = some hj → HI (layF t s l b) s (st.store th (aft (layF t s l b) y) (toN top + 1)) hj := fun j hj nj ej => by
      have kj := h.each j hj ej
      refine kj.same p2 (fun a ha' => ?_)
      rcases ha' with ⟨_, e1, e2⟩ | ⟨e1, e2⟩
      · obtain ⟨L', hL, _⟩ := h.head (by rw [← e1]; exact e2)
        have hm : a ∈ L := by rw [hL, ← e1]; simp
        have hr := h.rng a hm
        exact nx a hr.1 hr.2 (fun e => hny (e ▸ hm))
      · have hr := kj.yr e1
        rw [e2]
        refine nx _ hr.1 hr.2 (fun e => ?_)
        have h1 := h.cnt y yr.1 yr.2
        have h2 := hadC_two (k := y) e0 ej (fun e => nj e.symm)
        rw [had0, if_pos rfl] at h2
        have h3 : had1 y hj = 1 := by unfold had1; rw [if_neg (by rw [e1]; simp), if_pos e]
        omega
    refine ⟨h.ok.store _ _ _, ?_, by rw [p2]; have := h.v; omega, h.rng, fun k k0 k1 => ?_, fun j hj ej => ?_⟩
    · rw [p2]
      exact h.ch.turn _ _ (fun x m => by
        have hr := h.rng x m
        exact nx x hr.1 hr.2 (fun e => hny (e ▸ m)))
    · have h1 := h.cnt k k0 k1
      have h2 := hadC_set k hs i _ ⟨false, g0, ⟨2, top, y, false⟩⟩ e0
      rw [had0, had0] at h2
      show L.count k + hadC k (hs.set i ⟨false, g0, ⟨2, top, y, false⟩⟩) = 1
      omega
    · rw [set_get _ _ _ _ hlt] at ej
      by_cases eji : j = i
      · rw [if_pos eji] at ej
        injection ej with ej
        subst ej
        have kt := hi.top (by show (1 : Int) ≠ 0; decide)
        exact ⟨rfl, ⟨Or.inr (Or.inr rfl), hx.top, hx.y⟩, fun _ => yr, fun _ => by rw [p2]; exact kt, fun e => by simp at e, fun e => by simp at e, fun _ _ => ny⟩
      · rw [if_neg eji] at ej
        exact oth j hj eji ej
  · have e' : part = 2 := e
    subst e'
    have hq : peekB st (-2) = true := h.ok.is (by omega) (by omega)
    have es : pushS (layF t s l b) th ⟨2, top, y, false⟩ st = (⟨0, top, y, swapB st (-2) top⟩, st.swap th (-2) top (topN y (ver1 top))) := rfl
    show ((pushS (layF t s l b) th ⟨2, top, y, false⟩ st).1.dn = false → _) ∧ _
    rw [es, swapB_is hq]
    have pk : ∀ a, peekV (st.swap th (-2) top (topN y (ver1 top))) a = if a = -2 ∧ peekV st (-2) = top then topN y (ver1 top) else peekV st a := fun a => peekV_swap h.ok hq th top _ a
    refine ⟨fun hd => ?_, fun hd g => ?_⟩
    · have hne : ¬ peekV st (-2) = top := by simpa using hd
      exact h.calm (h.ok.swap _ _ _ _) (fun a => by rw [pk, if_neg (fun e => hne e.2)]) e0 ⟨hd, ⟨Or.inl rfl, hx.top, hx.y⟩, fun _ => yr, fun e => absurd rfl e, fun e => by simp at e, fun e => by simp at e, fun _ e => by simp at e⟩ (fun k => by rw [had0, had0])
    · have he : peekV st (-2) = top := by simpa using hd
      have hny := hi.q2 rfl rfl
      simp only at hny
      have hv := h.v
      rw [he] at hv
      have hw := hU (-2)
      rw [he] at hw
      have hv1 := ver1_small hw (by omega)
      have hv0 := (verN_rng hw).1
      have tn : toN (topN y (ver1 top)) = y := toN_top (by omega) (by omega)
      have vn : verN (topN y (ver1 top)) = verN top + 1 := by rw [verN_top (by omega) (by omega) (by omega) (by omega), hv1]
      have p2 : peekV (st.swap th (-2) top (topN y (ver1 top))) (-2) = topN y (ver1 top) := by rw [pk, if_pos ⟨rfl, he⟩]
      have nx : ∀ k, 0 ≤ k → k < (s : Int) → nextS (layF t s l b) (st.swap th (-2) top (topN y (ver1 top))) k = nextS (layF t s l b) st k := fun k k0 k1 => next_same k0 k1 (by rw [pk, if_neg (fun e => by have := e.1; omega)])
      refine ⟨h.ok.swap _ _ _ _, ?_, by rw [p2, vn]; omega, fun x m => ?_, fun k k0 k1 => ?_, fun j hj ej => ?_⟩
      · rw [p2, tn]
        refine ⟨rfl, ?_⟩
        show IsCh _ (nextS (layF t s l b) (st.swap th (-2) top (topN y (ver1 top))) y) L
        rw [nx y yr.1 yr.2, hny]
        have key := h.ch.turn (nx' := nextS (layF t s l b) (st.swap th (-2) top (topN y (ver1 top)))) _ _ (fun x m => by
          have hr := h.rng x m
          exact nx x hr.1 hr.2)
        rw [he] at key
        exact key
      · rcases List.mem_cons.1 m with e | m
        · have e1 : x = y := e
          rw [e1]
          exact yr
        · exact h.rng x m
      · have h1 := h.cnt k k0 k1
        have h2 := hadC_set k hs i _ ⟨true, g, ⟨0, 0, 0, false⟩⟩ e0
        rw [had0] at h2
        have h3 : had1 k ⟨true, g, ⟨0, 0, 0, false⟩⟩ = 0 := rfl
        rw [h3] at h2
        show (y :: L).count k + _ = 1
        rw [List.count_cons]
        by_cases ek : y = k
        · rw [if_pos ek] at h2
          rw [if_pos (by simpa using ek)]
          omega
        · rw [if_neg ek] at h2
          rw [if_neg (by simpa using ek)]
          omega
      · rw [set_get _ _ _ _ hlt] at ej
        by_cases eji : j = i
        · rw [if_pos eji] at ej
          injection ej with ej
          subst ej
          exact HI.new _ _ _ _
        · rw [if_neg eji] at ej
          have kj := h.each j hj ej
          exact kj.next (by rw [p2, vn, he]) (fun e => nx _ (kj.yr e).1 (kj.yr e).2)
end
end Go.Proofs.YtfjfeomkmhbpbaaGreat


/- Several machines between one another, with a row of what each thread has: how they lie, and what a step of one leaves. Conditions: those that each theorem names. -/
namespace Go.Proofs.YtfjfeomkmhbpbaaGreat
open Go.ChangeShapes Go.WideShapes Go.ChangeAt Go.RowKit
set_option linter.unusedVariables false
theorem flat_set {sz : Nat} : ∀ (rows : List (List Value)) (i f : Nat) (v : Value) (r : List Value), (∀ r ∈ rows, r.length = sz) → f < sz → rows[i]? = some r → rows.flatten.set (i * sz + f) v = (rows.set i (r.set f v)).flatten
  | [], i, f, v, r, _, _, e => by simp at e
  | a :: rows, 0, f, v, r, hl, hf, e => by
    have h0 := hl a (by simp)
    simp at e
    subst e
    rw [List.flatten_cons, Nat.zero_mul, Nat.zero_add, List.set_append_left _ _ (by omega)]
    rfl
  | a :: rows, i + 1, f, v, r, hl, hf, e => by
    have h0 := hl a (by simp)
    simp at e
    rw [List.flatten_cons, Nat.succ_mul, List.set_append_right _ _ (by omega), show i * sz + sz + f - a.length = i * sz + f by omega, flat_set rows i f v r (fun x m => hl x (by simp [m])) hf e]
    rfl
abbrev Owned := Option (Nat × TypeId × List Value)
structure ManyAt (C : TypeId) (w1 w : World) (gm : Nat) (dv pv : Value) (gl gh : Nat) (F : Nat → Int) (rows : List (List Value)) (os : List Owned) (s : MSt) : Prop where
  m : IsMem (fun q => q = gl ∨ q = gh ∨ ∃ (i : Nat) (p : Nat × TypeId × List Value), os[i]? = some (some p) ∧ q = p.1) w w1 w gm dv pv s
  l : Blk w gl 205 (cellsF F)
  h : Blk w gh C rows.flatten
  a : ∀ (i : Nat) (p : Nat × TypeId × List Value), os[i]? = some (some p) → Blk w p.1 p.2.1 p.2.2 ∧ p.1 ≠ gl ∧ p.1 ≠ gh ∧ w1.heap.size ≤ p.1
  d : ∀ (i j : Nat) (p q : Nat × TypeId × List Value), os[i]? = some (some p) → os[j]? = some (some q) → p.1 = q.1 → i = j
  lh : gl ≠ gh
  gh0 : w1.heap.size ≤ gh
section
variable {C : TypeId} {w1 w w' : World} {gm gl gh : Nat} {dv pv : Value} {F : Nat → Int} {rows : List (List Value)} {os : List Owned} {s s' : MSt}
theorem ManyAt.ext (h : ManyAt C w1 w gm dv pv gl gh F rows os s) (x : Ext w w') : ManyAt C w1 w' gm dv pv gl gh F rows os s :=
  ⟨(h.m.ext x).here, h.l.ext x, h.h.ext x, fun t p e => ⟨(h.a t p e).1.ext x, (h.a t p e).2⟩, h.d, h.lh, h.gh0⟩
/-- A new machine of a thread. -/
theorem ManyAt.take (h : ManyAt C w1 w gm dv pv gl gh F rows os s) (x : Ext w w') {i : Nat} {q : Nat × TypeId × List Value} (ht : i < os.length) (hg : w.heap.size ≤ q.1) (hb : Blk w' q.1 q.2.1 q.2.2) :
    ManyAt C w1 w' gm dv pv gl gh F rows (os.set i (some q)) s := by
  have hgl := h.l.lt
  have hgh := h.h.lt
  have hold : ∀ (t' : Nat) (p : Nat × TypeId × List Value), (os.set i (some q))[t']? = some (some p) → (t' = i ∧ p = q) ∨ (t' ≠ i ∧ os[t']? = some (some p)) := fun t' p e => by
    rw [set_get _ _ _ _ ht] at e
    by_cases e' : t' = i
    · rw [if_pos e'] at e
      exact Or.inl ⟨e', by injection e with e; injection e with e; exact e.symm⟩
    · rw [if_neg e'] at e
      exact Or.inr ⟨e', e⟩
  have low : ∀ (t' : Nat) (p : Nat × TypeId × List Value), os[t']? = some (some p) → p.1 < w.heap.size := fun t' p e => (h.a t' p e).1.lt
  refine ⟨h.m.hold x (fun b hb' => ?_), h.l.ext x, h.h.ext x, fun t' p e => ?_, fun t1 t2 p1 p2 e1 e2 e => ?_, h.lh, h.gh0⟩
  · rcases hb' with e | e | ⟨t', p, e, e2⟩
    · rw [e]; exact ⟨Nat.lt_of_lt_of_le hgl x.size, Or.inl (Or.inl rfl)⟩
    · rw [e]; exact ⟨Nat.lt_of_lt_of_le hgh x.size, Or.inl (Or.inr (Or.inl rfl))⟩
    · rw [e2]
      rcases hold t' p e with ⟨_, e3⟩ | ⟨_, e3⟩
      · rw [e3]; exact ⟨hb.lt, Or.inr hg⟩
      · exact ⟨Nat.lt_of_lt_of_le (low t' p e3) x.size, Or.inl (Or.inr (Or.inr ⟨t', p, e3, rfl⟩))⟩
  · rcases hold t' p e with ⟨e2, e3⟩ | ⟨_, e3⟩
    · subst e2 e3
      have := h.m.lt.1.size
      exact ⟨hb, by omega, by omega, by omega⟩
    · obtain ⟨b1, b2⟩ := h.a t' p e3
      exact ⟨b1.ext x, b2⟩
  · rcases hold t1 p1 e1 with ⟨a1, a2⟩ | ⟨a1, a2⟩ <;> rcases hold t2 p2 e2 with ⟨c1, c2⟩ | ⟨c1, c2⟩
    · omega
    · have := low t2 p2 c2
      rw [a2] at e
      omega
    · have := low t1 p1 a2
      rw [c2] at e
      omega
    · exact h.d t1 t2 p1 p2 a2 c2 e
/-- The row of what each has is written. -/
theorem ManyAt.turn (h : ManyAt C w1 w gm dv pv gl gh F rows os s) (f : Fr (fun b => b = gh) w w') {rows' : List (List Value)} (hb : Blk w' gh C rows'.flatten) : ManyAt C w1 w' gm dv pv gl gh F rows' os s := by
  have kp : ∀ b, b ≠ gh → b < w.heap.size → w'.heap[b]? = w.heap[b]? := fun b hb hlt => f.block b hlt hb
  refine ⟨h.m.turn f (fun b e => Or.inr (Or.inl e)) (fun b e => by rw [e]; exact h.gh0), (kp gl h.lh h.l.lt).trans h.l, hb, fun t' p e => ?_, h.d, h.lh, h.gh0⟩
  obtain ⟨b1, b2, b3, b4⟩ := h.a t' p e
  exact ⟨(kp p.1 b3 b1.lt).trans b1, b2, b3, b4⟩
theorem ManyAt.put {sz : Nat} (h : ManyAt C w1 w gm dv pv gl gh F rows os s) (hl : ∀ r ∈ rows, r.length = sz) {i f : Nat} {r : List Value} (hf : f < sz) (e : rows[i]? = some r) (v : Value) :
    ManyAt C w1 (w.setCell ⟨gh, i * sz + f, none⟩ v) gm dv pv gl gh F (rows.set i (r.set f v)) os s :=
  h.turn (Fr.setCell (S := fun b => b = gh) (p := ⟨gh, i * sz + f, none⟩) (Fr.refl _ w) (Or.inl rfl) _) (by
    rw [← flat_set rows i f v r hl hf e]
    exact h.h.set (i * sz + f) v)
/-- A step of a thread's machine. -/
theorem ManyAt.step (h : ManyAt C w1 w gm dv pv gl gh F rows os s) {i g : Nat} {T : TypeId} {cs cs' : List Value} (e0 : os[i]? = some (some (g, T, cs)))
    (m : IsMem (fun q => q = gl ∨ q = gh ∨ ∃ (i : Nat) (p : Nat × TypeId × List Value), os[i]? = some (some p) ∧ q = p.1) w' w1 w' gm dv pv s') (hb : Blk w' g T cs') (k : ∀ b, (b = gl ∨ b = gh ∨ ∃ (i : Nat) (p : Nat × TypeId × List Value), os[i]? = some (some p) ∧ b = p.1) → b ≠ g → w'.heap[b]? = w.heap[b]?) :
    ManyAt C w1 w' gm dv pv gl gh F rows (os.set i (some (g, T, cs'))) s' := by
  obtain ⟨a1, a2, a3, a4⟩ := h.a i (g, T, cs) e0
  have hlt : i < os.length := (List.getElem?_eq_some_iff.1 e0).1
  have hold : ∀ (t' : Nat) (p : Nat × TypeId × List Value), (os.set i (some (g, T, cs')))[t']? = some (some p) → (t' = i ∧ p = (g, T, cs')) ∨ (t' ≠ i ∧ os[t']? = some (some p)) := fun t' p e => by
    rw [set_get _ _ _ _ hlt] at e
    by_cases e' : t' = i
    · rw [if_pos e'] at e
      exact Or.inl ⟨e', by injection e with e; injection e with e; exact e.symm⟩
    · rw [if_neg e'] at e
      exact Or.inr ⟨e', e⟩
  refine ⟨m.less (fun q hq => ?_) (fun _ _ => rfl), (k gl (Or.inl rfl) (fun e => a2 e.symm)).trans h.l, (k gh (Or.inr (Or.inl rfl)) (fun e => a3 e.symm)).trans h.h, fun t' p e => ?_, fun t1 t2 p1 p2 e1 e2 e => ?_, h.lh, h.gh0⟩
  · rcases hq with e | e | ⟨t', p, e, e2⟩
    · exact Or.inl e
    · exact Or.inr (Or.inl e)
    · rcases hold t' p e with ⟨_, e3⟩ | ⟨_, e3⟩
      · exact Or.inr (Or.inr ⟨i, _, e0, by rw [e2, e3]⟩)
      · exact Or.inr (Or.inr ⟨t', p, e3, e2⟩)
  · rcases hold t' p e with ⟨e2, e3⟩ | ⟨e2, e3⟩
    · subst e2 e3
      exact ⟨hb, a2, a3, a4⟩
    · obtain ⟨b1, b2, b3, b4⟩ := h.a t' p e3
      exact ⟨(k p.1 (Or.inr (Or.inr ⟨t', p, e3, rfl⟩)) (fun e => e2 (h.d t' i p (g, T, cs) e3 e0 e))).trans b1, b2, b3, b4⟩
  · rcases hold t1 p1 e1 with ⟨c1, c2⟩ | ⟨c1, c2⟩ <;> rcases hold t2 p2 e2 with ⟨c3, c4⟩ | ⟨c3, c4⟩
    · omega
    · rw [c2] at e
      have := h.d i t2 (g, T, cs) p2 e0 c4 e
      omega
    · rw [c4] at e
      have := h.d t1 i p1 (g, T, cs) c2 e0 e
      omega
    · exact h.d t1 t2 p1 p2 c2 c4 e
/-- Where a thread's machine is let go. -/
theorem ManyAt.drop (h : ManyAt C w1 w gm dv pv gl gh F rows os s) {i : Nat} (ht : i < os.length) : ManyAt C w1 w gm dv pv gl gh F rows (os.set i none) s := by
  have hold : ∀ (t' : Nat) (p : Nat × TypeId × List Value), (os.set i none)[t']? = some (some p) → t' ≠ i ∧ os[t']? = some (some p) := fun t' p e => by
    rw [set_get _ _ _ _ ht] at e
    by_cases e' : t' = i
    · rw [if_pos e'] at e
      simp at e
    · rw [if_neg e'] at e
      exact ⟨e', e⟩
  refine ⟨h.m.less (fun q hq => ?_) (fun _ _ => rfl), h.l, h.h, fun t' p e => h.a t' p (hold t' p e).2, fun t1 t2 p1 p2 e1 e2 e => h.d t1 t2 p1 p2 (hold _ _ e1).2 (hold _ _ e2).2 e, h.lh, h.gh0⟩
  rcases hq with e | e | ⟨t', p, e, e2⟩
  · exact Or.inl e
  · exact Or.inr (Or.inl e)
  · exact Or.inr (Or.inr ⟨t', p, (hold t' p e).2, e2⟩)
end
end Go.Proofs.YtfjfeomkmhbpbaaGreat

