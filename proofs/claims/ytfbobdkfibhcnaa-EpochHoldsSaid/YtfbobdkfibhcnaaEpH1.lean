/- Threads that come in, go out and advance between one another: what holds, and what a step keeps. Conditions: those that each theorem names. -/
import Derived.Test.YtfbobdkfibhcnaaKFM
import Derived.Test.YtfbobdkfibhcnaaKOne
namespace Go.Proofs.Ytfbobdkfibhcnaa
open Go.ChangeShapes Go.WideShapes Go.ChangeAt Go.RowKit
set_option linter.unusedVariables false
/-- What a thread does. -/
inductive Mc where
  | non : Mc
  | ent : Nat → EMs → Mc
  | lea : Nat → Bool → Mc
  | adv : Nat → AMs → Mc
def Mc.dn : Mc → Bool
  | .non => true
  | .ent _ x => x.1
  | .lea _ d => d
  | .adv _ x => x.dn
def Mc.S (F : Nat → Int) (T : Nat) (t : Int) : Mc → MSt → Mc × MSt
  | .non, s => (.non, s)
  | .ent g x, s => (.ent g (enterS F t x s).1, (enterS F t x s).2)
  | .lea g d, s => (.lea g true, if d = true then s else s.store t (ann F t) 0)
  | .adv g x, s => (.adv g (advS F T t x s).1, (advS F T t x s).2)
def Mc.own (gl : Nat) (t : Int) : Mc → Owned
  | .non => none
  | .ent g x => some (g, 164, ecells gl t x)
  | .lea g d => some (g, 172, [.pointer (some ⟨gl, 0, none⟩), .int .i64 t, .bool d])
  | .adv g x => some (g, 126, x.cells gl t)
def Mc.pE : Mc → Option Addr
  | .ent g _ => some ⟨g, 0, none⟩
  | _ => none
def Mc.pL : Mc → Option Addr
  | .lea g _ => some ⟨g, 0, none⟩
  | _ => none
def Mc.pA : Mc → Option Addr
  | .adv g _ => some ⟨g, 0, none⟩
  | _ => none
/-- A thread: what it does, whether it is in, and which epoch there was when it came in. -/
structure EH where
  m : Mc
  inn : Bool
  a0 : Int
def EH.cells (h : EH) : List Value := [.pointer h.m.pE, .pointer h.m.pL, .pointer h.m.pA, .bool h.inn, .int .u64 h.a0]
structure AnnI (F : Nat → Int) (st : MSt) (i : Nat) (h : EH) : Prop where
  no : h.inn = false → peekV st (ann F i) = 0
  yes : h.inn = true → 1 ≤ peekV st (ann F i) ∧ peekV st (ann F i) ≤ h.a0 + 1 ∧ h.a0 ≤ peekV st (-1) ∧ peekV st (-1) ≤ h.a0 + 1
structure EI (t s l b n : Nat) (hs : List EH) (st : MSt) : Prop where
  ok : MOk (2 + t + s) (wN t s l b) st
  len : hs.length = t
  e : 0 ≤ peekV st (-1) ∧ peekV st (-1) ≤ (n : Int)
  an : ∀ (i : Nat) (h : EH), hs[i]? = some h → AnnI (layF t s l b) st i h ∧ W64 h.a0
  ent : ∀ (i : Nat) (h : EH) (g : Nat) (x : EMs), hs[i]? = some h → h.m = .ent g x → W64 x.2.2 ∧ (x.1 = false → h.inn = false ∧ (x.2.1 = true → 0 ≤ x.2.2 ∧ x.2.2 ≤ peekV st (-1)))
  adv : ∀ (i : Nat) (h : EH) (g : Nat) (x : AMs), hs[i]? = some h → h.m = .adv g x → x.Wf t ∧ (x.dn = false → (x.ld = false → x.asked = 0) ∧ (x.ld = true → 0 ≤ x.ep ∧ x.ep ≤ peekV st (-1) ∧ ∀ (j : Nat) (h' : EH), hs[j]? = some h' → h'.inn = true → h'.a0 < x.ep → x.asked ≤ j))
section
variable {t s l b n : Nat} {hs : List EH} {st st' : MSt} {i : Nat} {h0 h' : EH}
theorem EI.upd (h : EI t s l b n hs st) (e0 : hs[i]? = some h0) (ok : MOk (2 + t + s) (wN t s l b) st') (hE : peekV st (-1) ≤ peekV st' (-1)) (hn : peekV st' (-1) ≤ ((n + 1 : Nat) : Int))
    (hA : ∀ j : Nat, j < t → j ≠ i → peekV st' (ann (layF t s l b) j) = peekV st (ann (layF t s l b) j))
    (hi : AnnI (layF t s l b) st' i h' ∧ W64 h'.a0) (hB : ∀ (j : Nat) (hj : EH), hs[j]? = some hj → hj.inn = true → peekV st' (-1) ≤ hj.a0 + 1)
    (he : ∀ g x, h'.m = .ent g x → W64 x.2.2 ∧ (x.1 = false → h'.inn = false ∧ (x.2.1 = true → 0 ≤ x.2.2 ∧ x.2.2 ≤ peekV st' (-1))))
    (ha : ∀ g x, h'.m = .adv g x → x.Wf t ∧ (x.dn = false → (x.ld = false → x.asked = 0) ∧ (x.ld = true → 0 ≤ x.ep ∧ x.ep ≤ peekV st' (-1) ∧ ∀ (j : Nat) (hj : EH), hs[j]? = some hj → hj.inn = true → hj.a0 < x.ep → x.asked ≤ j)))
    (hO : h'.inn = true → (h0.inn = true ∧ h'.a0 = h0.a0) ∨ (peekV st (-1) ≤ h'.a0 ∧ ∀ g x, h'.m = .adv g x → x.dn = true ∨ x.ld = false ∨ x.ep ≤ h'.a0)) :
    EI t s l b (n + 1) (hs.set i h') st' := by
  have hlt : i < hs.length := (List.getElem?_eq_some_iff.1 e0).1
  have e1 := h.e
  refine ⟨ok, by rw [List.length_set]; exact h.len, ⟨by omega, hn⟩, fun j hj ej => ?_, fun j hj g x ej em => ?_, fun j hj g x ej em => ?_⟩
  · rw [set_get _ _ _ _ hlt] at ej
    by_cases eji : j = i
    · rw [if_pos eji] at ej
      injection ej with ej
      subst ej eji
      exact hi
    · rw [if_neg eji] at ej
      obtain ⟨k, kw⟩ := h.an j hj ej
      have hjl : j < t := by rw [← h.len]; exact (List.getElem?_eq_some_iff.1 ej).1
      exact ⟨⟨fun e => by rw [hA j hjl eji]; exact k.no e, fun e => by
        rw [hA j hjl eji]
        obtain ⟨k1, k2, k3, k4⟩ := k.yes e
        exact ⟨k1, k2, by omega, hB j hj ej e⟩⟩, kw⟩
  · rw [set_get _ _ _ _ hlt] at ej
    by_cases eji : j = i
    · rw [if_pos eji] at ej
      injection ej with ej
      subst ej
      exact he g x em
    · rw [if_neg eji] at ej
      obtain ⟨k0, k⟩ := h.ent j hj g x ej em
      exact ⟨k0, fun e => ⟨(k e).1, fun e2 => ⟨((k e).2 e2).1, by have := ((k e).2 e2).2; omega⟩⟩⟩
  · rw [set_get _ _ _ _ hlt] at ej
    have low : ∀ (x : AMs), (x.ld = true → 0 ≤ x.ep ∧ x.ep ≤ peekV st' (-1) ∧ ∀ (j : Nat) (hj : EH), hs[j]? = some hj → hj.inn = true → hj.a0 < x.ep → x.asked ≤ j) → (h'.inn = true → h'.a0 < x.ep → x.ld = true → x.asked ≤ i) → (x.ld = true → 0 ≤ x.ep ∧ x.ep ≤ peekV st' (-1) ∧ ∀ (j : Nat) (hj : EH), (hs.set i h')[j]? = some hj → hj.inn = true → hj.a0 < x.ep → x.asked ≤ j) := fun x k1 k2 hl => by
      obtain ⟨a1, a2, a3⟩ := k1 hl
      refine ⟨a1, a2, fun j hj e hin hlt2 => ?_⟩
      rw [set_get _ _ _ _ hlt] at e
      by_cases eji : j = i
      · rw [if_pos eji] at e
        injection e with e
        subst e
        rw [eji]
        exact k2 hin hlt2 hl
      · rw [if_neg eji] at e
        exact a3 j hj e hin hlt2
    by_cases eji : j = i
    · rw [if_pos eji] at ej
      injection ej with ej
      subst ej
      obtain ⟨k0, k⟩ := ha g x em
      refine ⟨k0, fun hd => ⟨(k hd).1, low x (k hd).2 (fun hin hlt2 hl => ?_)⟩⟩
      rcases hO hin with ⟨o1, o2⟩ | ⟨o1, o2⟩
      · exact ((k hd).2 hl).2.2 i h0 e0 o1 (by rw [← o2]; exact hlt2)
      · rcases o2 g x em with o | o | o
        · rw [o] at hd
          cases hd
        · rw [o] at hl
          cases hl
        · omega
    · rw [if_neg eji] at ej
      obtain ⟨k0, k⟩ := h.adv j hj g x ej em
      refine ⟨k0, fun hd => ⟨(k hd).1, low x (fun hl => ?_) (fun hin hlt2 hl => ?_)⟩⟩
      · obtain ⟨a1, a2, a3⟩ := (k hd).2 hl
        exact ⟨a1, by omega, a3⟩
      · obtain ⟨a1, a2, a3⟩ := (k hd).2 hl
        rcases hO hin with ⟨o1, o2⟩ | ⟨o1, o2⟩
        · exact a3 i h0 e0 o1 (by rw [← o2]; exact hlt2)
        · omega
/-- Whether a thread is in, and since which epoch, behind a step. -/
def inB (F : Nat → Int) (st : MSt) (i : Nat) : Bool := decide (peekV st (ann F i) ≠ 0)
def sinceS (F : Nat → Int) (st : MSt) (i : Nat) (h : EH) : Int := if (inB F st i && !h.inn) = true then peekV st (-1) else h.a0
theorem AnnI.inB {F : Nat → Int} {st : MSt} {i : Nat} {h : EH} (k : AnnI F st i h) : inB F st i = h.inn := by
  unfold Go.Proofs.Ytfbobdkfibhcnaa.inB
  cases hi : h.inn
  · simp [k.no hi]
  · have := (k.yes hi).1
    simp
    omega
theorem ann_ne {j : Nat} (hj : j < t) (hi : i < t) (h : j ≠ i) : ann (layF t s l b) j ≠ ann (layF t s l b) i := by
  rw [ann_at (by omega) (by omega), ann_at (by omega) (by omega)]
  omega
theorem ann_ep (hi : i < t) : (-1 : Int) ≠ ann (layF t s l b) i := by
  rw [ann_at (by omega) (by omega)]
  omega
/-- A step of one of them. -/
theorem EI.step (h : EI t s l b n hs st) (hn : n ≤ 1000) (hU : ∀ a, W64 (peekV st a)) (e0 : hs[i]? = some h0) (hd : h0.m.dn = false) :
    EI t s l b (n + 1) (hs.set i ⟨(h0.m.S (layF t s l b) t i st).1, inB (layF t s l b) (h0.m.S (layF t s l b) t i st).2 i, sinceS (layF t s l b) (h0.m.S (layF t s l b) t i st).2 i h0⟩) (h0.m.S (layF t s l b) t i st).2 := by
  have hit : i < t := by rw [← h.len]; exact (List.getElem?_eq_some_iff.1 e0).1
  have e1 := h.e
  have hB0 : ∀ (j : Nat) (hj : EH), hs[j]? = some hj → hj.inn = true → peekV st (-1) ≤ hj.a0 + 1 := fun j hj e hin => ((h.an j hj e).1.yes hin).2.2.2
  obtain ⟨A0, w0⟩ := h.an i h0 e0
  -- a step by which no word is turned
  have calm : ∀ (m' : Mc) (s' : MSt), MOk (2 + t + s) (wN t s l b) s' → (∀ a, peekV s' a = peekV st a) →
      (∀ g x, m' = .ent g x → W64 x.2.2 ∧ (x.1 = false → h0.inn = false ∧ (x.2.1 = true → 0 ≤ x.2.2 ∧ x.2.2 ≤ peekV st (-1)))) →
      (∀ g x, m' = .adv g x → x.Wf t ∧ (x.dn = false → (x.ld = false → x.asked = 0) ∧ (x.ld = true → 0 ≤ x.ep ∧ x.ep ≤ peekV st (-1) ∧ ∀ (j : Nat) (hj : EH), hs[j]? = some hj → hj.inn = true → hj.a0 < x.ep → x.asked ≤ j))) →
      EI t s l b (n + 1) (hs.set i ⟨m', inB (layF t s l b) s' i, sinceS (layF t s l b) s' i h0⟩) s' := fun m' s' ok hp he ha => by
    have A1 : AnnI (layF t s l b) s' i h0 := ⟨fun e => by rw [hp]; exact A0.no e, fun e => by rw [hp, hp]; exact A0.yes e⟩
    have hin := A1.inB
    have hsi : sinceS (layF t s l b) s' i h0 = h0.a0 := by
      unfold sinceS
      rw [hin]
      cases h0.inn <;> simp
    rw [hin, hsi]
    exact h.upd e0 ok (by rw [hp]; exact Int.le_refl _) (by rw [hp]; omega) (fun j _ _ => hp _) ⟨⟨A1.no, A1.yes⟩, w0⟩ (fun j hj e hi => by rw [hp]; exact hB0 j hj e hi) (fun g x em => by rw [hp]; exact he g x em) (fun g x em => by rw [hp]; exact ha g x em) (fun e => Or.inl ⟨e, rfl⟩)
  -- a step that stores an announcement
  have told : ∀ (m' : Mc) (v : Int), (v = 0 ∨ (1 ≤ v ∧ v ≤ peekV st (-1) + 1 ∧ h0.inn = false)) → (∀ g x, m' = .ent g x → x.1 = true ∧ W64 x.2.2) → (∀ g x, m' ≠ .adv g x) →
      EI t s l b (n + 1) (hs.set i ⟨m', inB (layF t s l b) (st.store i (ann (layF t s l b) i) v) i, sinceS (layF t s l b) (st.store i (ann (layF t s l b) i) v) i h0⟩) (st.store i (ann (layF t s l b) i) v) := fun m' v hv he ha => by
    have hq : peekB st (ann (layF t s l b) i) = true := by rw [ann_at (by omega) (by omega)]; exact h.ok.is (by omega) (by omega)
    have pk : ∀ a, peekV (st.store i (ann (layF t s l b) i) v) a = if a = ann (layF t s l b) i then v else peekV st a := fun a => peekV_store h.ok hq i v a
    have pE : peekV (st.store i (ann (layF t s l b) i) v) (-1) = peekV st (-1) := by rw [pk, if_neg (ann_ep hit)]
    have pA : peekV (st.store i (ann (layF t s l b) i) v) (ann (layF t s l b) i) = v := by rw [pk, if_pos rfl]
    refine h.upd e0 (h.ok.store _ _ _) (by rw [pE]; exact Int.le_refl _) (by rw [pE]; omega) (fun j hj hji => by rw [pk, if_neg (ann_ne hj hit hji)]) ?_ (fun j hj e hi => by rw [pE]; exact hB0 j hj e hi) (fun g x em => ?_) (fun g x em => absurd em (ha g x)) (fun e => ?_)
    · rcases hv with hv | ⟨v1, v2, v3⟩
      · have hb : inB (layF t s l b) (st.store i (ann (layF t s l b) i) v) i = false := by unfold inB; rw [pA, hv]; simp
        rw [hb]
        refine ⟨⟨fun _ => by rw [pA, hv], fun e => by simp at e⟩, ?_⟩
        show W64 (sinceS _ _ _ _)
        unfold sinceS
        rw [hb, Bool.false_and, if_neg (by simp)]
        exact w0
      · have hb : inB (layF t s l b) (st.store i (ann (layF t s l b) i) v) i = true := by unfold inB; rw [pA]; simp; omega
        have hs' : sinceS (layF t s l b) (st.store i (ann (layF t s l b) i) v) i h0 = peekV st (-1) := by
          unfold sinceS
          rw [hb, v3, if_pos (by simp), pE]
        rw [hb, hs']
        refine ⟨⟨fun e => by simp at e, fun _ => ?_⟩, hU (-1)⟩
        rw [pA, pE]
        show 1 ≤ v ∧ v ≤ peekV st (-1) + 1 ∧ peekV st (-1) ≤ peekV st (-1) ∧ peekV st (-1) ≤ peekV st (-1) + 1
        omega
    · obtain ⟨a1, a2⟩ := he g x em
      exact ⟨a2, fun e => by rw [a1] at e; cases e⟩
    · right
      have hb : inB (layF t s l b) (st.store i (ann (layF t s l b) i) v) i = true := e
      rcases hv with hv | ⟨v1, v2, v3⟩
      · unfold inB at hb
        rw [pA, hv] at hb
        simp at hb
      · have hs' : sinceS (layF t s l b) (st.store i (ann (layF t s l b) i) v) i h0 = peekV st (-1) := by
          unfold sinceS
          rw [hb, v3, if_pos (by simp), pE]
        show peekV st (-1) ≤ sinceS _ _ _ _ ∧ _
        rw [hs']
        exact ⟨Int.le_refl _, fun g x em => absurd em (ha g x)⟩
  obtain ⟨m, inn, a0⟩ := h0
  cases m with
  | non => cases hd
  | ent g x =>
    obtain ⟨d, ld, ep⟩ := x
    have hd' : d = false := hd
    subst hd'
    obtain ⟨k0, k⟩ := h.ent i _ g _ e0 rfl
    obtain ⟨k1, k2⟩ := k rfl
    cases ld
    · have e2 : (Mc.ent g (false, false, ep)).S (layF t s l b) t i st = (.ent g (false, true, peekV st (-1)), st.load i (-1)) := rfl
      show EI t s l b (n + 1) (hs.set i ⟨((Mc.ent g (false, false, ep)).S (layF t s l b) t i st).1, _, _⟩) _
      rw [e2]
      refine calm _ _ (h.ok.load _ _) (peekV_load st _ _) (fun g' x' em => ?_) (fun g' x' em => by cases em)
      injection em with _ em
      subst em
      exact ⟨hU (-1), fun _ => ⟨k1, fun _ => ⟨e1.1, Int.le_refl _⟩⟩⟩
    · obtain ⟨k3, k4⟩ := k2 rfl
      have e2 : (Mc.ent g (false, true, ep)).S (layF t s l b) t i st = (.ent g (true, true, ep), st.store i (ann (layF t s l b) i) (next64 ep)) := rfl
      show EI t s l b (n + 1) (hs.set i ⟨((Mc.ent g (false, true, ep)).S (layF t s l b) t i st).1, _, _⟩) _
      rw [e2]
      simp only at k3 k4
      have e3 : next64 ep = ep + 1 := by unfold next64; omega
      refine told _ _ (Or.inr ⟨by rw [e3]; omega, by rw [e3]; omega, k1⟩) (fun g' x' em => ?_) (fun g' x' em => by cases em)
      injection em with _ em
      subst em
      exact ⟨rfl, k0⟩
  | lea g d =>
    have hd' : d = false := hd
    subst hd'
    have e2 : (Mc.lea g false).S (layF t s l b) t i st = (.lea g true, st.store i (ann (layF t s l b) i) 0) := rfl
    show EI t s l b (n + 1) (hs.set i ⟨((Mc.lea g false).S (layF t s l b) t i st).1, _, _⟩) _
    rw [e2]
    exact told _ _ (Or.inl rfl) (fun g' x' em => by cases em) (fun g' x' em => by cases em)
  | adv g x =>
    obtain ⟨k0, k⟩ := h.adv i _ g x e0 rfl
    obtain ⟨k1, k2⟩ := k hd
    obtain ⟨dn, ld, ep, asked, mv⟩ := x
    have hd' : dn = false := hd
    subst hd'
    simp only at k1 k2
    cases ld
    · have e2 : (Mc.adv g ⟨false, false, ep, asked, mv⟩).S (layF t s l b) t i st = (.adv g ⟨false, true, peekV st (-1), asked, mv⟩, st.load i (-1)) := rfl
      show EI t s l b (n + 1) (hs.set i ⟨((Mc.adv g ⟨false, false, ep, asked, mv⟩).S (layF t s l b) t i st).1, _, _⟩) _
      rw [e2]
      refine calm _ _ (h.ok.load _ _) (peekV_load st _ _) (fun g' x' em => by cases em) (fun g' x' em => ?_)
      injection em with _ em
      subst em
      refine ⟨⟨hU (-1), k0.asked⟩, fun _ => ⟨fun e => by simp at e, fun _ => ⟨e1.1, Int.le_refl _, fun j hj _ _ _ => ?_⟩⟩⟩
      have := k1 rfl
      show asked ≤ j
      omega
    · obtain ⟨q1, q2, q3⟩ := k2 rfl
      by_cases ha : asked < t
      · have e2 : (Mc.adv g ⟨false, true, ep, asked, mv⟩).S (layF t s l b) t i st = (.adv g ⟨holds ep (peekV st (ann (layF t s l b) asked)), true, ep, asked + 1, mv⟩, st.load i (ann (layF t s l b) asked)) := by
          show (Mc.adv g (advS (layF t s l b) t i ⟨false, true, ep, asked, mv⟩ st).1, (advS (layF t s l b) t i ⟨false, true, ep, asked, mv⟩ st).2) = _
          have : advS (layF t s l b) t i ⟨false, true, ep, asked, mv⟩ st = (⟨holds ep (peekV st (ann (layF t s l b) asked)), true, ep, asked + 1, mv⟩, st.load i (ann (layF t s l b) asked)) := by
            unfold advS
            rw [if_neg (by simp), if_neg (by simp), if_pos ha]
          rw [this]
        show EI t s l b (n + 1) (hs.set i ⟨((Mc.adv g ⟨false, true, ep, asked, mv⟩).S (layF t s l b) t i st).1, _, _⟩) _
        rw [e2]
        refine calm _ _ (h.ok.load _ _) (peekV_load st _ _) (fun g' x' em => by cases em) (fun g' x' em => ?_)
        injection em with _ em
        subst em
        refine ⟨⟨k0.ep, by show asked + 1 ≤ t; omega⟩, fun hd2 => ⟨fun e => by simp at e, fun _ => ⟨q1, q2, fun j hj ej hin hlt => ?_⟩⟩⟩
        have h1 := q3 j hj ej hin hlt
        show asked + 1 ≤ j
        by_cases eja : j = asked
        · subst eja
          obtain ⟨y1, y2, _, _⟩ := (h.an j hj ej).1.yes hin
          have h2 : holds ep (peekV st (ann (layF t s l b) j)) = false := hd2
          have hlt' : hj.a0 < ep := hlt
          have e3 : next64 ep = ep + 1 := by unfold next64; omega
          unfold holds at h2
          rw [e3] at h2
          have b1 : (peekV st (ann (layF t s l b) j) != 0) = true := by rw [bne_iff_ne]; omega
          have b2 : (peekV st (ann (layF t s l b) j) != ep + 1) = true := by rw [bne_iff_ne]; omega
          rw [b1, b2] at h2
          cases h2
        · omega
      · have ea : asked = t := by have := k0.asked; simp only at this; omega
        subst ea
        have hq : peekB st (-1) = true := h.ok.is (by omega) (by omega)
        have e2 : (Mc.adv g ⟨false, true, ep, asked, mv⟩).S (layF asked s l b) asked i st = (.adv g ⟨true, true, ep, asked, swapB st (-1) ep⟩, st.swap i (-1) ep (next64 ep)) := by
          show (Mc.adv g (advS (layF asked s l b) asked i ⟨false, true, ep, asked, mv⟩ st).1, (advS (layF asked s l b) asked i ⟨false, true, ep, asked, mv⟩ st).2) = _
          have : advS (layF asked s l b) asked i ⟨false, true, ep, asked, mv⟩ st = (⟨true, true, ep, asked, swapB st (-1) ep⟩, st.swap i (-1) ep (next64 ep)) := by
            unfold advS
            rw [if_neg (by simp), if_neg (by simp), if_neg ha]
          rw [this]
        show EI asked s l b (n + 1) (hs.set i ⟨((Mc.adv g ⟨false, true, ep, asked, mv⟩).S (layF asked s l b) asked i st).1, _, _⟩) _
        rw [e2]
        have e3 : next64 ep = ep + 1 := by unfold next64; omega
        rw [e3]
        have pk : ∀ a, peekV (st.swap i (-1) ep (ep + 1)) a = if a = -1 ∧ peekV st (-1) = ep then ep + 1 else peekV st a := fun a => peekV_swap h.ok hq i ep _ a
        have pA : ∀ j : Nat, j < asked → peekV (st.swap i (-1) ep (ep + 1)) (ann (layF asked s l b) j) = peekV st (ann (layF asked s l b) j) := fun j hj => by rw [pk, if_neg (fun e => (ann_ep hj) e.1.symm)]
        have pE : peekV (st.swap i (-1) ep (ep + 1)) (-1) = if peekV st (-1) = ep then ep + 1 else peekV st (-1) := by
          rw [pk]
          by_cases e : peekV st (-1) = ep
          · rw [if_pos ⟨rfl, e⟩, if_pos e]
          · rw [if_neg (fun x => e x.2), if_neg e]
        have hB : ∀ (j : Nat) (hj : EH), hs[j]? = some hj → hj.inn = true → peekV (st.swap i (-1) ep (ep + 1)) (-1) ≤ hj.a0 + 1 := fun j hj ej hin => by
          rw [pE]
          have h1 := hB0 j hj ej hin
          split
          · have hjl : j < asked := by rw [← h.len]; exact (List.getElem?_eq_some_iff.1 ej).1
            by_cases hlt : hj.a0 < ep
            · have := q3 j hj ej hin hlt
              omega
            · omega
          · exact h1
        have hE : peekV st (-1) ≤ peekV (st.swap i (-1) ep (ep + 1)) (-1) := by rw [pE]; split <;> omega
        have hin' : inB (layF asked s l b) (st.swap i (-1) ep (ep + 1)) i = inn := by
          have hA0 : inB (layF asked s l b) st i = inn := A0.inB
          rw [← hA0]
          unfold inB
          rw [pA i hit]
        have hsi : sinceS (layF asked s l b) (st.swap i (-1) ep (ep + 1)) i ⟨.adv g ⟨false, true, ep, asked, mv⟩, inn, a0⟩ = a0 := by
          unfold sinceS
          rw [hin']
          cases inn <;> simp
        rw [hin', hsi]
        refine h.upd e0 (h.ok.swap _ _ _ _) hE (by rw [pE]; split <;> omega) (fun j hj _ => pA j hj) ⟨⟨fun e => by rw [pA i hit]; exact A0.no e, fun e => ?_⟩, w0⟩ hB (fun g' x' em => by cases em) (fun g' x' em => ?_) (fun e => Or.inl ⟨e, rfl⟩)
        · obtain ⟨y1, y2, y3, y4⟩ := A0.yes e
          rw [pA i hit]
          exact ⟨y1, y2, Int.le_trans y3 hE, hB i ⟨.adv g ⟨false, true, ep, asked, mv⟩, inn, a0⟩ e0 e⟩
        · injection em with _ em
          subst em
          exact ⟨⟨k0.ep, k0.asked⟩, fun e => by simp at e⟩
/-- One that is done begins anew. -/
theorem EI.make (h : EI t s l b n hs st) (e0 : hs[i]? = some h0) (m' : Mc) (hm : (∃ g, m' = .ent g (false, false, 0) ∧ h0.inn = false) ∨ (∃ g, m' = .lea g false) ∨ ∃ g, m' = .adv g ⟨false, false, 0, 0, false⟩) : EI t s l b n (hs.set i ⟨m', h0.inn, h0.a0⟩) st := by
  have hlt : i < hs.length := (List.getElem?_eq_some_iff.1 e0).1
  have same : ∀ (j : Nat) (hj : EH), (hs.set i ⟨m', h0.inn, h0.a0⟩)[j]? = some hj → ∃ hk, hs[j]? = some hk ∧ hk.inn = hj.inn ∧ hk.a0 = hj.a0 := fun j hj e => by
    rw [set_get _ _ _ _ hlt] at e
    by_cases eji : j = i
    · rw [if_pos eji] at e
      injection e with e
      subst e
      exact ⟨h0, by rw [eji]; exact e0, rfl, rfl⟩
    · rw [if_neg eji] at e
      exact ⟨hj, e, rfl, rfl⟩
  have split : ∀ (j : Nat) (hj : EH), (hs.set i ⟨m', h0.inn, h0.a0⟩)[j]? = some hj → (j = i ∧ hj = ⟨m', h0.inn, h0.a0⟩) ∨ hs[j]? = some hj := fun j hj e => by
    rw [set_get _ _ _ _ hlt] at e
    by_cases eji : j = i
    · rw [if_pos eji] at e
      injection e with e
      exact Or.inl ⟨eji, e.symm⟩
    · rw [if_neg eji] at e
      exact Or.inr e
  refine ⟨h.ok, by rw [List.length_set]; exact h.len, h.e, fun j hj e => ?_, fun j hj g x e em => ?_, fun j hj g x e em => ?_⟩
  · obtain ⟨hk, e1, e2, e3⟩ := same j hj e
    obtain ⟨k, kw⟩ := h.an j hk e1
    exact ⟨⟨fun q => k.no (by rw [e2]; exact q), fun q => by rw [← e3]; exact k.yes (by rw [e2]; exact q)⟩, by rw [← e3]; exact kw⟩
  · rcases split j hj e with ⟨_, e2⟩ | e2
    · subst e2
      rcases hm with ⟨g', e3, e4⟩ | ⟨g', e3⟩ | ⟨g', e3⟩
      · have em' : m' = .ent g x := em
        rw [e3] at em'
        injection em' with _ em'
        subst em'
        exact ⟨⟨Int.le_refl 0, by show (0 : Int) < _; decide⟩, fun _ => ⟨e4, fun q => by simp at q⟩⟩
      · have em' : m' = .ent g x := em
        rw [e3] at em'
        cases em'
      · have em' : m' = .ent g x := em
        rw [e3] at em'
        cases em'
    · exact h.ent j hj g x e2 em
  · have up : (x.Wf t ∧ (x.dn = false → (x.ld = false → x.asked = 0) ∧ (x.ld = true → 0 ≤ x.ep ∧ x.ep ≤ peekV st (-1) ∧ ∀ (j : Nat) (h' : EH), hs[j]? = some h' → h'.inn = true → h'.a0 < x.ep → x.asked ≤ j))) → (x.Wf t ∧ (x.dn = false → (x.ld = false → x.asked = 0) ∧ (x.ld = true → 0 ≤ x.ep ∧ x.ep ≤ peekV st (-1) ∧ ∀ (j : Nat) (h' : EH), (hs.set i ⟨m', h0.inn, h0.a0⟩)[j]? = some h' → h'.inn = true → h'.a0 < x.ep → x.asked ≤ j))) := fun k => ⟨k.1, fun hd => ⟨(k.2 hd).1, fun hl => by
      obtain ⟨a1, a2, a3⟩ := (k.2 hd).2 hl
      refine ⟨a1, a2, fun j' h' e' hin hlt2 => ?_⟩
      obtain ⟨hk, e1, e2, e3⟩ := same j' h' e'
      exact a3 j' hk e1 (by rw [e2]; exact hin) (by rw [e3]; exact hlt2)⟩⟩
    refine up ?_
    rcases split j hj e with ⟨_, e2⟩ | e2
    · subst e2
      rcases hm with ⟨g', e3, e4⟩ | ⟨g', e3⟩ | ⟨g', e3⟩
      · have em' : m' = .adv g x := em
        rw [e3] at em'
        cases em'
      · have em' : m' = .adv g x := em
        rw [e3] at em'
        cases em'
      · have em' : m' = .adv g x := em
        rw [e3] at em'
        injection em' with _ em'
        subst em'
        exact ⟨⟨⟨Int.le_refl 0, by show (0 : Int) < _; decide⟩, Nat.zero_le _⟩, fun _ => ⟨fun _ => rfl, fun q => by simp at q⟩⟩
    · exact h.adv j hj g x e2 em
end
end Go.Proofs.Ytfbobdkfibhcnaa
