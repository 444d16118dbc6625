/- Threads that come in, go out and advance between one another: what holds, and what a step keeps. Conditions: those that each theorem names. -/
import Derived.Test.YtfbobdkfibhcnaaGreatKFM
import Derived.Test.YtfbobdkfibhcnaaGreatKOne
import Derived.Test.YtfbobdkfibhcnaaGreatRPop
import Derived.Deep.MidRow
import Derived.Laws.ResultCell
namespace Go.Proofs.YtfbobdkfibhcnaaGreat
open Go.ChangeShapes Go.WideShapes Go.ChangeAt Go.RowKit
set_option linter.unusedVariables false
/-- What a thread does. -/
inductive Mc where
  | non : Mc
  | ent : Nat → EMs → Mc
  | lea : Nat → Bool → Mc
  | adv : Nat → AMs → Mc
def Mc.dn : Mc → Bool
  | .non => true
  | .ent _ x => x.1
  | .lea _ d => d
  | .adv _ x => x.dn
def Mc.S (F : Nat → Int) (T : Nat) (t : Int) : Mc → MSt → Mc × MSt
  | .non, s => (.non, s)
  | .ent g x, s => (.ent g (enterS F t x s).1, (enterS F t x s).2)
  | .lea g d, s => (.lea g true, if d = true then s else s.store t (ann F t) 0)
  | .adv g x, s => (.adv g (advS F T t x s).1, (advS F T t x s).2)
def Mc.own (gl : Nat) (t : Int) : Mc → Owned
  | .non => none
  | .ent g x => some (g, 239, ecells gl t x)
  | .lea g d => some (g, 245, [.pointer (some ⟨gl, 0, none⟩), .int .i64 t, .bool d])
  | .adv g x => some (g, 180, x.cells gl t)
def Mc.pE : Mc → Option Addr
  | .ent g _ => some ⟨g, 0, none⟩
  | _ => none
def Mc.pL : Mc → Option Addr
  | .lea g _ => some ⟨g, 0, none⟩
  | _ => none
def Mc.pA : Mc → Option Addr
  | .adv g _ => some ⟨g, 0, none⟩
  | _ => none
/-- A thread: what it does, whether it is in, and which epoch there was when it came in. -/
structure EH where
  m : Mc
  inn : Bool
  a0 : Int
def EH.cells (h : EH) : List Value := [.pointer h.m.pE, .pointer h.m.pL, .pointer h.m.pA, .bool h.inn, .int .u64 h.a0]
structure AnnI (F : Nat → Int) (st : MSt) (i : Nat) (h : EH) : Prop where
  no : h.inn = false → peekV st (ann F i) = 0
  yes : h.inn = true → 1 ≤ peekV st (ann F i) ∧ peekV st (ann F i) ≤ h.a0 + 1 ∧ h.a0 ≤ peekV st (-1) ∧ peekV st (-1) ≤ h.a0 + 1
structure EI (t s l b n : Nat) (hs : List EH) (st : MSt) : Prop where
  ok : MOk (2 + t + s) (wN t s l b) st
  len : hs.length = t
  e : 0 ≤ peekV st (-1) ∧ peekV st (-1) ≤ (n : Int)
  an : ∀ (i : Nat) (h : EH), hs[i]? = some h → AnnI (layF t s l b) st i h ∧ W64 h.a0
  ent : ∀ (i : Nat) (h : EH) (g : Nat) (x : EMs), hs[i]? = some h → h.m = .ent g x → W64 x.2.2 ∧ (x.1 = false → h.inn = false ∧ (x.2.1 = true → 0 ≤ x.2.2 ∧ x.2.2 ≤ peekV st (-1)))
  adv : ∀ (i : Nat) (h : EH) (g : Nat) (x : AMs), hs[i]? = some h → h.m = .adv g x → x.Wf t ∧ (x.dn = false → (x.ld = false → x.asked = 0) ∧ (x.ld = true → 0 ≤ x.ep ∧ x.ep ≤ peekV st (-1) ∧ ∀ (j : Nat) (h' : EH), hs[j]? = some h' → h'.inn = true → h'.a0 < x.ep → x.asked ≤ j))
section
variable {t s l b n : Nat} {hs : List EH} {st st' : MSt} {i : Nat} {h0 h' : EH}
theorem EI.upd (h : EI t s l b n hs st) (e0 : hs[i]? = some h0) (ok : MOk (2 + t + s) (wN t s l b) st') (hE : peekV st (-1) ≤ peekV st' (-1)) (hn : peekV st' (-1) ≤ ((n + 1 : Nat) : Int))
    (hA : ∀ j : Nat, j < t → j ≠ i → peekV st' (ann (layF t s l b) j) = peekV st (ann (layF t s l b) j))
    (hi : AnnI (layF t s l b) st' i h' ∧ W64 h'.a0) (hB : ∀ (j : Nat) (hj : EH), hs[j]? = some hj → hj.inn = true → peekV st' (-1) ≤ hj.a0 + 1)
    (he : ∀ g x, h'.m = .ent g x → W64 x.2.2 ∧ (x.1 = false → h'.inn = false ∧ (x.2.1 = true → 0 ≤ x.2.2 ∧ x.2.2 ≤ peekV st' (-1))))
    (ha : ∀ g x, h'.m = .adv g x → x.Wf t ∧ (x.dn = false → (x.ld = false → x.asked = 0) ∧ (x.ld = true → 0 ≤ x.ep ∧ x.ep ≤ peekV st' (-1) ∧ ∀ (j : Nat) (hj : EH), hs[j]? = some hj → hj.inn = true → hj.a0 < x.ep → x.asked ≤ j)))
    (hO : h'.inn = true → (h0.inn = true ∧ h'.a0 = h0.a0) ∨ (peekV st (-1) ≤ h'.a0 ∧ ∀ g x, h'.m = .adv g x → x.dn = true ∨ x.ld = false ∨ x.ep ≤ h'.a0)) :
    EI t s l b (n + 1) (hs.set i h') st' := by
  have hlt : i < hs.length := (List.getElem?_eq_some_iff.1 e0).1
  have e1 := h.e
  refine ⟨ok, by rw [List.length_set]; exact h.len, ⟨by omega, hn⟩, fun j hj ej => ?_, fun j hj g x ej em => ?_, fun j hj g x ej em => ?_⟩
  · rw [set_get _ _ _ _ hlt] at ej
    by_cases eji : j = i
    · rw [if_pos eji] at ej
      injection ej with ej
      subst ej eji
      exact hi
    · rw [if_neg eji] at ej
      obtain ⟨k, kw⟩ := h.an j hj ej
      have hjl : j < t := by rw [← h.len]; exact (List.getElem?_eq_some_iff.1 ej).1
      exact ⟨⟨fun e => by rw [hA j hjl eji]; exact k.no e, fun e => by
        rw [hA j hjl eji]
        obtain ⟨k1, k2, k3, k4⟩ := k.yes e
        exact ⟨k1, k2, by omega, hB j hj ej e⟩⟩, kw⟩
  · rw [set_get _ _ _ _ hlt] at ej
    by_cases eji : j = i
    · rw [if_pos eji] at ej
      injection ej with ej
      subst ej
      exact he g x em
    · rw [if_neg eji] at ej
      obtain ⟨k0, k⟩ := h.ent j hj g x ej em
      exact ⟨k0, fun e => ⟨(k e).1, fun e2 => ⟨((k e).2 e2).1, by have := ((k e).2 e2).2; omega⟩⟩⟩
  · rw [set_get _ _ _ _ hlt] at ej
    have low : ∀ (x : AMs), (x.ld = true → 0 ≤ x.ep ∧ x.ep ≤ peekV st' (-1) ∧ ∀ (j : Nat) (hj : EH), hs[j]? = some hj → hj.inn = true → hj.a0 < x.ep → x.asked ≤ j) → (h'.inn = true → h'.a0 < x.ep → x.ld = true → x.asked ≤ i) → (x.ld = true → 0 ≤ x.ep ∧ x.ep ≤ peekV st' (-1) ∧ ∀ (j : Nat) (hj : EH), (hs.set i h')[j]? = some hj → hj.inn = true → hj.a0 < x.ep → x.asked ≤ j) := fun x k1 k2 hl => by
      obtain ⟨a1, a2, a3⟩ := k1 hl
      refine ⟨a1, a2, fun j hj e hin hlt2 => ?_⟩
      rw [set_get _ _ _ _ hlt] at e
      by_cases eji : j = i
      · rw [if_pos eji] at e
        injection e with e
        subst e
        rw [eji]
        exact k2 hin hlt2 hl
      · rw [if_neg eji] at e
        exact a3 j hj e hin hlt2
    by_cases eji : j = i
    · rw [if_pos eji] at ej
      injection ej with ej
      subst ej
      obtain ⟨k0, k⟩ := ha g x em
      refine ⟨k0, fun hd => ⟨(k hd).1, low x (k hd).2 (fun hin hlt2 hl => ?_)⟩⟩
      rcases hO hin with ⟨o1, o2⟩ | ⟨o1, o2⟩
      · exact ((k hd).2 hl).2.2 i h0 e0 o1 (by rw [← o2]; exact hlt2)
      · rcases o2 g x em with o | o | o
        · rw [o] at hd
          cases hd
        · rw [o] at hl
          cases hl
        · omega
    · rw [if_neg eji] at ej
      obtain ⟨k0, k⟩ := h.adv j hj g x ej em
      refine ⟨k0, fun hd => ⟨(k hd).1, low x (fun hl => ?_) (fun hin hlt2 hl => ?_)⟩⟩
      · obtain ⟨a1, a2, a3⟩ := (k hd).2 hl
        exact ⟨a1, by omega, a3⟩
      · obtain ⟨a1, a2, a3⟩ := (k hd).2 hl
        rcases hO hin with ⟨o1, o2⟩ | ⟨o1, o2⟩
        · exact a3 i h0 e0 o1 (by rw [← o2]; exact hlt2)
        · omega
/-- Whether a thread is in, and since which epoch, behind a step. -/
def inB (F : Nat → Int) (st : MSt) (i : Nat) : Bool := decide (peekV st (ann F i) ≠ 0)
def sinceS (F : Nat → Int) (st : MSt) (i : Nat) (h : EH) : Int := if (inB F st i && !h.inn) = true then peekV st (-1) else h.a0
theorem AnnI.inB {F : Nat → Int} {st : MSt} {i : Nat} {h : EH} (k : AnnI F st i h) : inB F st i = h.inn := by
  unfold Go.Proofs.YtfbobdkfibhcnaaGreat.inB
  cases hi : h.inn
  · simp [k.no hi]
  · have := (k.yes hi).1
    simp
    omega
theorem ann_ne {j : Nat} (hj : j < t) (hi : i < t) (h : j ≠ i) : ann (layF t s l b) j ≠ ann (layF t s l b) i := by
  rw [ann_at (by omega) (by omega), ann_at (by omega) (by omega)]
  omega
theorem ann_ep (hi : i < t) : (-1 : Int) ≠ ann (layF t s l b) i := by
  rw [ann_at (by omega) (by omega)]
  omega
/-- A step of one of them. -/
theorem EI.step (h : EI t s l b n hs st) (hn : n ≤ 1000) (hU : ∀ a, W64 (peekV st a)) (e0 : hs[i]? = some h0) (hd : h0.m.dn = false) :
    EI t s l b (n + 1) (hs.set i ⟨(h0.m.S (layF t s l b) t i st).1, inB (layF t s l b) (h0.m.S (layF t s l b) t i st).2 i, sinceS (layF t s l b) (h0.m.S (layF t s l b) t i st).2 i h0⟩) (h0.m.S (layF t s l b) t i st).2 := by
  have hit : i < t := by rw [← h.len]; exact (List.getElem?_eq_some_iff.1 e0).1
  have e1 := h.e
  have hB0 : ∀ (j : Nat) (hj : EH), hs[j]? = some hj → hj.inn = true → peekV st (-1) ≤ hj.a0 + 1 := fun j hj e hin => ((h.an j hj e).1.yes hin).2.2.2
  obtain ⟨A0, w0⟩ := h.an i h0 e0
  -- a step by which no word is turned
  have calm : ∀ (m' : Mc) (s' : MSt), MOk (2 + t + s) (wN t s l b) s' → (∀ a, peekV s' a = peekV st a) →
      (∀ g x, m' = .ent g x → W64 x.2.2 ∧ (x.1 = false → h0.inn = false ∧ (x.2.1 = true → 0 ≤ x.2.2 ∧ x.2.2 ≤ peekV st (-1)))) →
      (∀ g x, m' = .adv g x → x.Wf t ∧ (x.dn = false → (x.ld = false → x.asked = 0) ∧ (x.ld = true → 0 ≤ x.ep ∧ x.ep ≤ peekV st (-1) ∧ ∀ (j : Nat) (hj : EH), hs[j]? = some hj → hj.inn = true → hj.a0 < x.ep → x.asked ≤ j))) →
      EI t s l b (n + 1) (hs.set i ⟨m', inB (layF t s l b) s' i, sinceS (layF t s l b) s' i h0⟩) s' := fun m' s' ok hp he ha => by
    have A1 : AnnI (layF t s l b) s' i h0 := ⟨fun e => by rw [hp]; exact A0.no e, fun e => by rw [hp, hp]; exact A0.yes e⟩
    have hin := A1.inB
    have hsi : sinceS (layF t s l b) s' i h0 = h0.a0 := by
      unfold sinceS
      rw [hin]
      cases h0.inn <;> simp
    rw [hin, hsi]
    exact h.upd e0 ok (by rw [hp]; exact Int.le_refl _) (by rw [hp]; omega) (fun j _ _ => hp _) ⟨⟨A1.no, A1.yes⟩, w0⟩ (fun j hj e hi => by rw [hp]; exact hB0 j hj e hi) (fun g x em => by rw [hp]; exact he g x em) (fun g x em => by rw [hp]; exact ha g x em) (fun e => Or.inl ⟨e, rfl⟩)
  -- a step that stores an announcement
  have told : ∀ (m' : Mc) (v : Int), (v = 0 ∨ (1 ≤ v ∧ v ≤ peekV st (-1) + 1 ∧ h0.inn = false)) → (∀ g x, m' = .ent g x → x.1 = true ∧ W64 x.2.2) → (∀ g x, m' ≠ .adv g x) →
      EI t s l b (n + 1) (hs.set i ⟨m', inB (layF t s l b) (st.store i (ann (layF t s l b) i) v) i, sinceS (layF t s l b) (st.store i (ann (layF t s l b) i) v) i h0⟩) (st.store i (ann (layF t s l b) i) v) := fun m' v hv he ha => by
    have hq : peekB st (ann (layF t s l b) i) = true := by rw [ann_at (by omega) (by omega)]; exact h.ok.is (by omega) (by omega)
    have pk : ∀ a, peekV (st.store i (ann (layF t s l b) i) v) a = if a = ann (layF t s l b) i then v else peekV st a := fun a => peekV_store h.ok hq i v a
    have pE : peekV (st.store i (ann (layF t s l b) i) v) (-1) = peekV st (-1) := by rw [pk, if_neg (ann_ep hit)]
    have pA : peekV (st.store i (ann (layF t s l b) i) v) (ann (layF t s l b) i) = v := by rw [pk, if_pos rfl]
    refine h.upd e0 (h.ok.store _ _ _) (by rw [pE]; exact Int.le_refl _) (by rw [pE]; omega) (fun j hj hji => by rw [pk, if_neg (ann_ne hj hit hji)]) ?_ (fun j hj e hi => by rw [pE]; exact hB0 j hj e hi) (fun g x em => ?_) (fun g x em => absurd em (ha g x)) (fun e => ?_)
    · rcases hv with hv | ⟨v1, v2, v3⟩
      · have hb : inB (layF t s l b) (st.store i (ann (layF t s l b) i) v) i = false := by unfold inB; rw [pA, hv]; simp
        rw [hb]
        refine ⟨⟨fun _ => by rw [pA, hv], fun e => by simp at e⟩, ?_⟩
        show W64 (sinceS _ _ _ _)
        unfold sinceS
        rw [hb, Bool.false_and, if_neg (by simp)]
        exact w0
      · have hb : inB (layF t s l b) (st.store i (ann (layF t s l b) i) v) i = true := by unfold inB; rw [pA]; simp; omega
        have hs' : sinceS (layF t s l b) (st.store i (ann (layF t s l b) i) v) i h0 = peekV st (-1) := by
          unfold sinceS
          rw [hb, v3, if_pos (by simp), pE]
        rw [hb, hs']
        refine ⟨⟨fun e => by simp at e, fun _ => ?_⟩, hU (-1)⟩
        rw [pA, pE]
        show 1 ≤ v ∧ v ≤ peekV st (-1) + 1 ∧ peekV st (-1) ≤ peekV st (-1) ∧ peekV st (-1) ≤ peekV st (-1) + 1
        omega
    · obtain ⟨a1, a2⟩ := he g x em
      exact ⟨a2, fun e => by rw [a1] at e; cases e⟩
    · right
      have hb : inB (layF t s l b) (st.store i (ann (layF t s l b) i) v) i = true := e
      rcases hv with hv | ⟨v1, v2, v3⟩
      · unfold inB at hb
        rw [pA, hv] at hb
        simp at hb
      · have hs' : sinceS (layF t s l b) (st.store i (ann (layF t s l b) i) v) i h0 = peekV st (-1) := by
          unfold sinceS
          rw [hb, v3, if_pos (by simp), pE]
        show peekV st (-1) ≤ sinceS _ _ _ _ ∧ _
        rw [hs']
        exact ⟨Int.le_refl _, fun g x em => absurd em (ha g x)⟩
  obtain ⟨m, inn, a0⟩ := h0
  cases m with
  | non => cases hd
  | ent g x =>
    obtain ⟨d, ld, ep⟩ := x
    have hd' : d = false := hd
    subst hd'
    obtain ⟨k0, k⟩ := h.ent i _ g _ e0 rfl
    obtain ⟨k1, k2⟩ := k rfl
    cases ld
    · have e2 : (Mc.ent g (false, false, ep)).S (layF t s l b) t i st = (.ent g (false, true, peekV st (-1)), st.load i (-1)) := rfl
      show EI t s l b (n + 1) (hs.set i ⟨((Mc.ent g (false, false, ep)).S (layF t s l b) t i st).1, _, _⟩) _
      rw [e2]
      refine calm _ _ (h.ok.load _ _) (peekV_load st _ _) (fun g' x' em => ?_) (fun g' x' em => by cases em)
      injection em with _ em
      subst em
      exact ⟨hU (-1), fun _ => ⟨k1, fun _ => ⟨e1.1, Int.le_refl _⟩⟩⟩
    · obtain ⟨k3, k4⟩ := k2 rfl
      have e2 : (Mc.ent g (false, true, ep)).S (layF t s l b) t i st = (.ent g (true, true, ep), st.store i (ann (layF t s l b) i) (next64 ep)) := rfl
      show EI t s l b (n + 1) (hs.set i ⟨((Mc.ent g (false, true, ep)).S (layF t s l b) t i st).1, _, _⟩) _
      rw [e2]
      simp only at k3 k4
      have e3 : next64 ep = ep + 1 := by unfold next64; omega
      refine told _ _ (Or.inr ⟨by rw [e3]; omega, by rw [e3]; omega, k1⟩) (fun g' x' em => ?_) (fun g' x' em => by cases em)
      injection em with _ em
      subst em
      exact ⟨rfl, k0⟩
  | lea g d =>
    have hd' : d = false := hd
    subst hd'
    have e2 : (Mc.lea g false).S (layF t s l b) t i st = (.lea g true, st.store i (ann (layF t s l b) i) 0) := rfl
    show EI t s l b (n + 1) (hs.set i ⟨((Mc.lea g false).S (layF t s l b) t i st).1, _, _⟩) _
    rw [e2]
    exact told _ _ (Or.inl rfl) (fun g' x' em => by cases em) (fun g' x' em => by cases em)
  | adv g x =>
    obtain ⟨k0, k⟩ := h.adv i _ g x e0 rfl
    obtain ⟨k1, k2⟩ := k hd
    obtain ⟨dn, ld, ep, asked, mv⟩ := x
    have hd' : dn = false := hd
    subst hd'
    simp only at k1 k2
    cases ld
    · have e2 : (Mc.adv g ⟨false, false, ep, asked, mv⟩).S (layF t s l b) t i st = (.adv g ⟨false, true, peekV st (-1), asked, mv⟩, st.load i (-1)) := rfl
      show EI t s l b (n + 1) (hs.set i ⟨((Mc.adv g ⟨false, false, ep, asked, mv⟩).S (layF t s l b) t i st).1, _, _⟩) _
      rw [e2]
      refine calm _ _ (h.ok.load _ _) (peekV_load st _ _) (fun g' x' em => by cases em) (fun g' x' em => ?_)
      injection em with _ em
      subst em
      refine ⟨⟨hU (-1), k0.asked⟩, fun _ => ⟨fun e => by simp at e, fun _ => ⟨e1.1, Int.le_refl _, fun j hj _ _ _ => ?_⟩⟩⟩
      have := k1 rfl
      show asked ≤ j
      omega
    · obtain ⟨q1, q2, q3⟩ := k2 rfl
      by_cases ha : asked < t
      · have e2 : (Mc.adv g ⟨false, true, ep, asked, mv⟩).S (layF t s l b) t i st = (.adv g ⟨holds ep (peekV st (ann (layF t s l b) asked)), true, ep, asked + 1, mv⟩, st.load i (ann (layF t s l b) asked)) := by
          show (Mc.adv g (advS (layF t s l b) t i ⟨false, true, ep, asked, mv⟩ st).1, (advS (layF t s l b) t i ⟨false, true, ep, asked, mv⟩ st).2) = _
          have : advS (layF t s l b) t i ⟨false, true, ep, asked, mv⟩ st = (⟨holds ep (peekV st (ann (layF t s l b) asked)), true, ep, asked + 1, mv⟩, st.load i (ann (layF t s l b) asked)) := by
            unfold advS
            rw [if_neg (by simp), if_neg (by simp), if_pos ha]
          rw [this]
        show EI t s l b (n + 1) (hs.set i ⟨((Mc.adv g ⟨false, true, ep, asked, mv⟩).S (layF t s l b) t i st).1, _, _⟩) _
        rw [e2]
        refine calm _ _ (h.ok.load _ _) (peekV_load st _ _) (fun g' x' em => by cases em) (fun g' x' em => ?_)
        injection em with _ em
        subst em
        refine ⟨⟨k0.ep, by show asked + 1 ≤ t; omega⟩, fun hd2 => ⟨fun e => by simp at e, fun _ => ⟨q1, q2, fun j hj ej hin hlt => ?_⟩⟩⟩
        have h1 := q3 j hj ej hin hlt
        show asked + 1 ≤ j
        by_cases eja : j = asked
        · subst eja
          obtain ⟨y1, y2, _, _⟩ := (h.an j hj ej).1.yes hin
          have h2 : holds ep (peekV st (ann (layF t s l b) j)) = false := hd2
          have hlt' : hj.a0 < ep := hlt
          have e3 : next64 ep = ep + 1 := by unfold next64; omega
          unfold holds at h2
          rw [e3] at h2
          have b1 : (peekV st (ann (layF t s l b) j) != 0) = true := by rw [bne_iff_ne]; omega
          have b2 : (peekV st (ann (layF t s l b) j) != ep + 1) = true := by rw [bne_iff_ne]; omega
          rw [b1, b2] at h2
          cases h2
        · omega
      · have ea : asked = t := by have := k0.asked; simp only at this; omega
        subst ea
        have hq : peekB st (-1) = true := h.ok.is (by omega) (by omega)
        have e2 : (Mc.adv g ⟨false, true, ep, asked, mv⟩).S (layF asked s l b) asked i st = (.adv g ⟨true, true, ep, asked, swapB st (-1) ep⟩, st.swap i (-1) ep (next64 ep)) := by
          show (Mc.adv g (advS (layF asked s l b) asked i ⟨false, true, ep, asked, mv⟩ st).1, (advS (layF asked s l b) asked i ⟨false, true, ep, asked, mv⟩ st).2) = _
          have : advS (layF asked s l b) asked i ⟨false, true, ep, asked, mv⟩ st = (⟨true, true, ep, asked, swapB st (-1) ep⟩, st.swap i (-1) ep (next64 ep)) := by
            unfold advS
            rw [if_neg (by simp), if_neg (by simp), if_neg ha]
          rw [this]
        show EI asked s l b (n + 1) (hs.set i ⟨((Mc.adv g ⟨false, true, ep, asked, mv⟩).S (layF asked s l b) asked i st).1, _, _⟩) _
        rw [e2]
        have e3 : next64 ep = ep + 1 := by unfold next64; omega
        rw [e3]
        have pk : ∀ a, peekV (st.swap i (-1) ep (ep + 1)) a = if a = -1 ∧ peekV st (-1) = ep then ep + 1 else peekV st a := fun a => peekV_swap h.ok hq i ep _ a
        have pA : ∀ j : Nat, j < asked → peekV (st.swap i (-1) ep (ep + 1)) (ann (layF asked s l b) j) = peekV st (ann (layF asked s l b) j) := fun j hj => by rw [pk, if_neg (fun e => (ann_ep hj) e.1.symm)]
        have pE : peekV (st.swap i (-1) ep (ep + 1)) (-1) = if peekV st (-1) = ep then ep + 1 else peekV st (-1) := by
          rw [pk]
          by_cases e : peekV st (-1) = ep
          · rw [if_pos ⟨rfl, e⟩, if_pos e]
          · rw [if_neg (fun x => e x.2), if_neg e]
        have hB : ∀ (j : Nat) (hj : EH), hs[j]? = some hj → hj.inn = true → peekV (st.swap i (-1) ep (ep + 1)) (-1) ≤ hj.a0 + 1 := fun j hj ej hin => by
          rw [pE]
          have h1 := hB0 j hj ej hin
          split
          · have hjl : j < asked := by rw [← h.len]; exact (List.getElem?_eq_some_iff.1 ej).1
            by_cases hlt : hj.a0 < ep
            · have := q3 j hj ej hin hlt
              omega
            · omega
          · exact h1
        have hE : peekV st (-1) ≤ peekV (st.swap i (-1) ep (ep + 1)) (-1) := by rw [pE]; split <;> omega
        have hin' : inB (layF asked s l b) (st.swap i (-1) ep (ep + 1)) i = inn := by
          have hA0 : inB (layF asked s l b) st i = inn := A0.inB
          rw [← hA0]
          unfold inB
          rw [pA i hit]
        have hsi : sinceS (layF asked s l b) (st.swap i (-1) ep (ep + 1)) i ⟨.adv g ⟨false, true, ep, asked, mv⟩, inn, a0⟩ = a0 := by
          unfold sinceS
          rw [hin']
          cases inn <;> simp
        rw [hin', hsi]
        refine h.upd e0 (h.ok.swap _ _ _ _) hE (by rw [pE]; split <;> omega) (fun j hj _ => pA j hj) ⟨⟨fun e => by rw [pA i hit]; exact A0.no e, fun e => ?_⟩, w0⟩ hB (fun g' x' em => by cases em) (fun g' x' em => ?_) (fun e => Or.inl ⟨e, rfl⟩)
        · obtain ⟨y1, y2, y3, y4⟩ := A0.yes e
          rw [pA i hit]
          exact ⟨y1, y2, Int.le_trans y3 hE, hB i ⟨.adv g ⟨false, true, ep, asked, mv⟩, inn, a0⟩ e0 e⟩
        · injection em with _ em
          subst em
          exact ⟨⟨k0.ep, k0.asked⟩, fun e => by simp at e⟩
/-- One that is done begins anew. -/
theorem EI.make (h : EI t s l b n hs st) (e0 : hs[i]? = some h0) (m' : Mc) (hm : (∃ g, m' = .ent g (false, false, 0) ∧ h0.inn = false) ∨ (∃ g, m' = .lea g false) ∨ ∃ g, m' = .adv g ⟨false, false, 0, 0, false⟩) : EI t s l b n (hs.set i ⟨m', h0.inn, h0.a0⟩) st := by
  have hlt : i < hs.length := (List.getElem?_eq_some_iff.1 e0).1
  have same : ∀ (j : Nat) (hj : EH), (hs.set i ⟨m', h0.inn, h0.a0⟩)[j]? = some hj → ∃ hk, hs[j]? = some hk ∧ hk.inn = hj.inn ∧ hk.a0 = hj.a0 := fun j hj e => by
    rw [set_get _ _ _ _ hlt] at e
    by_cases eji : j = i
    · rw [if_pos eji] at e
      injection e with e
      subst e
      exact ⟨h0, by rw [eji]; exact e0, rfl, rfl⟩
    · rw [if_neg eji] at e
      exact ⟨hj, e, rfl, rfl⟩
  have split : ∀ (j : Nat) (hj : EH), (hs.set i ⟨m', h0.inn, h0.a0⟩)[j]? = some hj → (j = i ∧ hj = ⟨m', h0.inn, h0.a0⟩) ∨ hs[j]? = some hj := fun j hj e => by
    rw [set_get _ _ _ _ hlt] at e
    by_cases eji : j = i
    · rw [if_pos eji] at e
      injection e with e
      exact Or.inl ⟨eji, e.symm⟩
    · rw [if_neg eji] at e
      exact Or.inr e
  refine ⟨h.ok, by rw [List.length_set]; exact h.len, h.e, fun j hj e => ?_, fun j hj g x e em => ?_, fun j hj g x e em => ?_⟩
  · obtain ⟨hk, e1, e2, e3⟩ := same j hj e
    obtain ⟨k, kw⟩ := h.an j hk e1
    exact ⟨⟨fun q => k.no (by rw [e2]; exact q), fun q => by rw [← e3]; exact k.yes (by rw [e2]; exact q)⟩, by rw [← e3]; exact kw⟩
  · rcases split j hj e with ⟨_, e2⟩ | e2
    · subst e2
      rcases hm with ⟨g', e3, e4⟩ | ⟨g', e3⟩ | ⟨g', e3⟩
      · have em' : m' = .ent g x := em
        rw [e3] at em'
        injection em' with _ em'
        subst em'
        exact ⟨⟨Int.le_refl 0, by show (0 : Int) < _; decide⟩, fun _ => ⟨e4, fun q => by simp at q⟩⟩
      · have em' : m' = .ent g x := em
        rw [e3] at em'
        cases em'
      · have em' : m' = .ent g x := em
        rw [e3] at em'
        cases em'
    · exact h.ent j hj g x e2 em
  · have up : (x.Wf t ∧ (x.dn = false → (x.ld = false → x.asked = 0) ∧ (x.ld = true → 0 ≤ x.ep ∧ x.ep ≤ peekV st (-1) ∧ ∀ (j : Nat) (h' : EH), hs[j]? = some h' → h'.inn = true → h'.a0 < x.ep → x.asked ≤ j))) → (x.Wf t ∧ (x.dn = false → (x.ld = false → x.asked = 0) ∧ (x.ld = true → 0 ≤ x.ep ∧ x.ep ≤ peekV st (-1) ∧ ∀ (j : Nat) (h' : EH), (hs.set i ⟨m', h0.inn, h0.a0⟩)[j]? = some h' → h'.inn = true → h'.a0 < x.ep → x.asked ≤ j))) := fun k => ⟨k.1, fun hd => ⟨(k.2 hd).1, fun hl => by
      obtain ⟨a1, a2, a3⟩ := (k.2 hd).2 hl
      refine ⟨a1, a2, fun j' h' e' hin hlt2 => ?_⟩
      obtain ⟨hk, e1, e2, e3⟩ := same j' h' e'
      exact a3 j' hk e1 (by rw [e2]; exact hin) (by rw [e3]; exact hlt2)⟩⟩
    refine up ?_
    rcases split j hj e with ⟨_, e2⟩ | e2
    · subst e2
      rcases hm with ⟨g', e3, e4⟩ | ⟨g', e3⟩ | ⟨g', e3⟩
      · have em' : m' = .adv g x := em
        rw [e3] at em'
        cases em'
      · have em' : m' = .adv g x := em
        rw [e3] at em'
        cases em'
      · have em' : m' = .adv g x := em
        rw [e3] at em'
        injection em' with _ em'
        subst em'
        exact ⟨⟨⟨Int.le_refl 0, by show (0 : Int) < _; decide⟩, Nat.zero_le _⟩, fun _ => ⟨fun _ => rfl, fun q => by simp at q⟩⟩
    · exact h.adv j hj g x e2 em
end
end Go.Proofs.YtfbobdkfibhcnaaGreat

/- The document's machine of layer 10, each step. Conditions: those that each theorem names. -/
namespace Go.Proofs.YtfbobdkfibhcnaaGreat
open Go.ChangeShapes Go.WideShapes Go.ChangeAt Go.RowKit
set_option linter.unusedVariables false
structure RMa where
  kind : Int
  line : Int
  now : Int
  mv : Bool
def RMa.cells (r : RMa) (t s l b tn : Int) : List Value := [.int .i64 t, .int .i64 s, .int .i64 l, .int .i64 b, .int .i64 tn, .int .i64 r.kind, .int .i64 r.line, .int .u64 r.now, .bool r.mv]
section
variable {B : Nat} {w : World} {g : Nat} {R : RefB} {rv : Value} {gq : Nat} {st : MSt} {t s l b : Nat} {tn now kind line : Int} {mv : Bool}
set_option maxRecDepth 100000 in
set_option maxHeartbeats 4000000 in
theorem rm_done (h : IsRMem B w g R rv st) (hb : Blk w gq 67 (RMa.cells ⟨kind, 0, now, mv⟩ t s l b tn)) (ho : ¬ rfoot g R rv gq) :
    Calls Tryz.prog 32 #[.pointer (some ⟨gq, 0, none⟩), .pointer (some ⟨g, 0, none⟩)] w (RPost B w g R rv gq 67 (RMa.cells ⟨kind, 0, now, mv⟩ t s l b tn) st) := by
    have M0 := Lib.hid (RG.of h hb ho)
    have c6 : w.cell? ⟨gq, 6, none⟩ = some (.int .i64 0) := hb.cell 6
    clear h hb
    go_enter Tryz.func32, Tryz.ntmps32
    go_wp2_with fail
    (first | (refine bodyPost_ret (results_none rfl _ _ _) rfl ?_) | (refine bodyPost_end (results_none rfl _ _ _) rfl ?_))
    exact ⟨⟨_, rfl⟩, M0.out⟩
set_option maxRecDepth 100000 in
set_option maxHeartbeats 4000000 in
theorem rm_leave (h : IsRMem B w g R rv st) (sd : Sound st.dev) (hc : Calm st) (c : CfgN t s l b) (ok : Okay (layF t s l b)) (hb : Blk w gq 67 (RMa.cells ⟨1, 1, now, mv⟩ t s l b tn)) (ho : ¬ rfoot g R rv gq) :
    Calls Tryz.prog 32 #[.pointer (some ⟨gq, 0, none⟩), .pointer (some ⟨g, 0, none⟩)] w (RPost B w g R rv gq 67 (RMa.cells ⟨1, 0, now, mv⟩ t s l b tn) (st.store tn (ann (layF t s l b) tn) 0)) := by
    have M := Lib.hid ((RG.of h hb ho).ext ((Ext.refl w).drew))
    have HAn0 := Lib.hid (fun W n => rann_ok (t := t) (s := s) (l := l) (b := b) c n W)
    have har := ann_rng ok tn
    have HL : Hid (∀ W, RG B w W g R rv gq 67 (RMa.cells ⟨1, 1, now, mv⟩ t s l b tn) st → Calls Tryz.prog 91 #[.pointer (some ⟨g, 0, none⟩), .int .i64 2, .int .i64 tn, .int .i64 (ann (layF t s l b) tn), .int .u64 0, .int .u64 0] W fun e w' => (∃ u, e = .returned u) ∧ RG B w w' g R rv gq 67 (RMa.cells ⟨1, 1, now, mv⟩ t s l b tn) (st.store tn (ann (layF t s l b) tn) 0)) := Lib.hid (fun W m => (refStore7v m.ref sd hc tn _ 0 0 har.1 har.2).mono (by rintro e w' ⟨rfl, r1, f1⟩; exact ⟨⟨_, rfl⟩, m.to r1 f1⟩))
    have HAn := Lib.hid (fun W => HAn0.out W tn)
    have HP : Hid (∀ W s', RG B w W g R rv gq 67 (RMa.cells ⟨1, 1, now, mv⟩ t s l b tn) s' → (W.cell? ⟨gq, 0, none⟩ = some (.int .i64 t) ∧ W.cell? ⟨gq, 1, none⟩ = some (.int .i64 s) ∧ W.cell? ⟨gq, 2, none⟩ = some (.int .i64 l) ∧ W.cell? ⟨gq, 3, none⟩ = some (.int .i64 b)) ∧ W.cell? ⟨gq, 4, none⟩ = some (.int .i64 tn) ∧ W.cell? ⟨gq, 6, none⟩ = some (.int .i64 1) ∧ W.cell? ⟨gq, 7, none⟩ = some (.int .u64 now)) := Lib.hid (fun W s' m => ⟨⟨m.blk.cell 0, m.blk.cell 1, m.blk.cell 2, m.blk.cell 3⟩, m.blk.cell 4, m.blk.cell 6, m.blk.cell 7⟩)
    have HP2 : Hid (∀ W s' u, RG B w W g R rv gq 67 (RMa.cells ⟨1, 1, now, mv⟩ t s l b tn) s' → ((W.setCell ⟨gq, 8, none⟩ u).cell? ⟨gq, 0, none⟩ = some (.int .i64 t) ∧ (W.setCell ⟨gq, 8, none⟩ u).cell? ⟨gq, 1, none⟩ = some (.int .i64 s) ∧ (W.setCell ⟨gq, 8, none⟩ u).cell? ⟨gq, 2, none⟩ = some (.int .i64 l) ∧ (W.setCell ⟨gq, 8, none⟩ u).cell? ⟨gq, 3, none⟩ = some (.int .i64 b)) ∧ (W.setCell ⟨gq, 8, none⟩ u).cell? ⟨gq, 4, none⟩ = some (.int .i64 tn) ∧ (W.setCell ⟨gq, 8, none⟩ u).cell? ⟨gq, 6, none⟩ = some (.int .i64 1) ∧ (W.setCell ⟨gq, 8, none⟩ u).cell? ⟨gq, 7, none⟩ = some (.int .u64 now)) := Lib.hid (fun W s' u m => ⟨⟨(m.put 8 u).blk.cell 0, (m.put 8 u).blk.cell 1, (m.put 8 u).blk.cell 2, (m.put 8 u).blk.cell 3⟩, (m.put 8 u).blk.cell 4, (m.put 8 u).blk.cell 6, (m.put 8 u).blk.cell 7⟩)
    have c0 : w.cell? ⟨gq, 0, none⟩ = some (.int .i64 t) := hb.cell 0
    have c1 : w.cell? ⟨gq, 1, none⟩ = some (.int .i64 s) := hb.cell 1
    have c2 : w.cell? ⟨gq, 2, none⟩ = some (.int .i64 l) := hb.cell 2
    have c3 : w.cell? ⟨gq, 3, none⟩ = some (.int .i64 b) := hb.cell 3
    have c4 : w.cell? ⟨gq, 4, none⟩ = some (.int .i64 tn) := hb.cell 4
    have c5 : w.cell? ⟨gq, 5, none⟩ = some (.int .i64 1) := hb.cell 5
    have c6 : w.cell? ⟨gq, 6, none⟩ = some (.int .i64 1) := hb.cell 6
    have c7 : w.cell? ⟨gq, 7, none⟩ = some (.int .u64 now) := hb.cell 7
    clear h hb sd hc HAn0 har
    go_enter Tryz.func32, Tryz.ntmps32
    go_wp2_with fail
    go_region_held3 (fun W => (W.cell? ⟨gq, 0, none⟩ = some (.int .i64 t) ∧ W.cell? ⟨gq, 1, none⟩ = some (.int .i64 s) ∧ W.cell? ⟨gq, 2, none⟩ = some (.int .i64 l) ∧ W.cell? ⟨gq, 3, none⟩ = some (.int .i64 b)) ∧ W.cell? ⟨gq, 4, none⟩ = some (.int .i64 tn) ∧ W.cell? ⟨gq, 6, none⟩ = some (.int .i64 1) ∧ W.cell? ⟨gq, 7, none⟩ = some (.int .u64 now)) (first | exact HP.out _ _ M.out | exact HP2.out _ _ _ M.out | go_keep) (first
      | (go_at_call 120; refine (HAn.out _).mono ?_; rintro e w1 ⟨rfl, x1⟩; replace M := Lib.hid (M.out.ext x1); clear x1)
      | (go_at_call 91; refine (HL.out _ M.out).mono ?_; rintro e w1 ⟨⟨u, rfl⟩, m1⟩; replace M := Lib.hid m1; clear m1))
    all_goals
      have y6 : w1.cell? ⟨gq, 6, none⟩ = some (.int .i64 1) := M.out.blk.cell 6
      have z6 : w1.frozen? ⟨gq, 6, none⟩ = false := M.out.blk.frozen 6
      have M2 := Lib.hid (M.out.put 6 (.int .i64 0))
      go_wp2_with fail
      (first | (refine bodyPost_ret (results_none rfl _ _ _) rfl ?_) | (refine bodyPost_end (results_none rfl _ _ _) rfl ?_))
      exact ⟨⟨_, rfl⟩, M2.out⟩
set_option maxRecDepth 100000 in
set_option maxHeartbeats 4000000 in
theorem rm_load (h : IsRMem B w g R rv st) (sd : Sound st.dev) (hc : Calm st) (hk : kind = 0 ∨ kind = 2) (hb : Blk w gq 67 (RMa.cells ⟨kind, 1, now, mv⟩ t s l b tn)) (ho : ¬ rfoot g R rv gq) :
    Calls Tryz.prog 32 #[.pointer (some ⟨gq, 0, none⟩), .pointer (some ⟨g, 0, none⟩)] w (RPost B w g R rv gq 67 (RMa.cells ⟨kind, 2, peekV st (-1), mv⟩ t s l b tn) (st.load tn (-1))) := by
    have M0 := Lib.hid (RG.of h hb ho)
    have HL := Lib.hid (refLoad7v h sd hc tn (-1) 0 0 (by decide) (by decide))
    obtain ⟨a1, a2, a3, a4, a5, ha⟩ := load_tells st tn (-1)
    rw [ha] at HL
    have hf3 := fun W => fldA3 a1 a2 a3 (peekV st (-1)) a4 a5 W
    have k1 : (kind == 1) = false := by rw [beq_eq_false_iff_ne]; omega
    have k1' : ¬ kind = 1 := by omega
    generalize peekV st (-1) = v at *
    generalize st.load tn (-1) = st1 at *
    have c6 : w.cell? ⟨gq, 6, none⟩ = some (.int .i64 1) := hb.cell 6
    have c5 : w.cell? ⟨gq, 5, none⟩ = some (.int .i64 kind) := hb.cell 5
    have c4 : w.cell? ⟨gq, 4, none⟩ = some (.int .i64 tn) := hb.cell 4
    clear h hb sd hc ha hk
    go_enter Tryz.func32, Tryz.ntmps32
    go_wp2_with fail
    refine HL.out.mono ?_
    rintro e w1 ⟨rfl, r1, f1⟩
    have m1 := M0.out.to r1 f1
    have d7 : w1.cell? ⟨gq, 7, none⟩ = some (.int .u64 now) := m1.blk.cell 7
    have z7 : w1.frozen? ⟨gq, 7, none⟩ = false := m1.blk.frozen 7
    have m2 := m1.put 7 (.int .u64 v)
    have d6 : (w1.setCell ⟨gq, 7, none⟩ (.int .u64 v)).cell? ⟨gq, 6, none⟩ = some (.int .i64 1) := m2.blk.cell 6
    have z6 : (w1.setCell ⟨gq, 7, none⟩ (.int .u64 v)).frozen? ⟨gq, 6, none⟩ = false := m2.blk.frozen 6
    have M3 := Lib.hid (m2.put 6 (.int .i64 2))
    clear r1 f1 m1 m2 M0 c4 c5 c6
    go_wp2_with fail
    (first | (refine bodyPost_ret (results_none rfl _ _ _) rfl ?_) | (refine bodyPost_end (results_none rfl _ _ _) rfl ?_))
    exact ⟨⟨_, rfl⟩, M3.out⟩
set_option maxRecDepth 100000 in
set_option maxHeartbeats 4000000 in
theorem rm_enter (h : IsRMem B w g R rv st) (sd : Sound st.dev) (hc : Calm st) (c : CfgN t s l b) (ok : Okay (layF t s l b)) (hw : W64 now) (hb : Blk w gq 67 (RMa.cells ⟨0, 2, now, mv⟩ t s l b tn)) (ho : ¬ rfoot g R rv gq) :
    Calls Tryz.prog 32 #[.pointer (some ⟨gq, 0, none⟩), .pointer (some ⟨g, 0, none⟩)] w (RPost B w g R rv gq 67 (RMa.cells ⟨0, 0, now, mv⟩ t s l b tn) (st.store tn (ann (layF t s l b) tn) (next64 now))) := by
    have M := Lib.hid ((RG.of h hb ho).ext ((Ext.refl w).drew))
    have HAn0 := Lib.hid (fun W n => rann_ok (t := t) (s := s) (l := l) (b := b) c n W)
    have hwn : IntKind.u64.wrap (now + 1) = next64 now := by unfold next64 IntKind.wrap; simp [IntKind.signed, IntKind.bits]
    have har := ann_rng ok tn
    have HL : Hid (∀ W, RG B w W g R rv gq 67 (RMa.cells ⟨0, 2, now, mv⟩ t s l b tn) st → Calls Tryz.prog 91 #[.pointer (some ⟨g, 0, none⟩), .int .i64 2, .int .i64 tn, .int .i64 (ann (layF t s l b) tn), .int .u64 0, .int .u64 (next64 now)] W fun e w' => (∃ u, e = .returned u) ∧ RG B w w' g R rv gq 67 (RMa.cells ⟨0, 2, now, mv⟩ t s l b tn) (st.store tn (ann (layF t s l b) tn) (next64 now))) := Lib.hid (fun W m => (refStore7v m.ref sd hc tn _ 0 (next64 now) har.1 har.2).mono (by rintro e w' ⟨rfl, r1, f1⟩; exact ⟨⟨_, rfl⟩, m.to r1 f1⟩))
    have HAn := Lib.hid (fun W => HAn0.out W tn)
    generalize next64 now = nx at *
    have HP : Hid (∀ W s', RG B w W g R rv gq 67 (RMa.cells ⟨0, 2, now, mv⟩ t s l b tn) s' → (W.cell? ⟨gq, 0, none⟩ = some (.int .i64 t) ∧ W.cell? ⟨gq, 1, none⟩ = some (.int .i64 s) ∧ W.cell? ⟨gq, 2, none⟩ = some (.int .i64 l) ∧ W.cell? ⟨gq, 3, none⟩ = some (.int .i64 b)) ∧ W.cell? ⟨gq, 4, none⟩ = some (.int .i64 tn) ∧ W.cell? ⟨gq, 6, none⟩ = some (.int .i64 2) ∧ W.cell? ⟨gq, 7, none⟩ = some (.int .u64 now)) := Lib.hid (fun W s' m => ⟨⟨m.blk.cell 0, m.blk.cell 1, m.blk.cell 2, m.blk.cell 3⟩, m.blk.cell 4, m.blk.cell 6, m.blk.cell 7⟩)
    have HP2 : Hid (∀ W s' u, RG B w W g R rv gq 67 (RMa.cells ⟨0, 2, now, mv⟩ t s l b tn) s' → ((W.setCell ⟨gq, 8, none⟩ u).cell? ⟨gq, 0, none⟩ = some (.int .i64 t) ∧ (W.setCell ⟨gq, 8, none⟩ u).cell? ⟨gq, 1, none⟩ = some (.int .i64 s) ∧ (W.setCell ⟨gq, 8, none⟩ u).cell? ⟨gq, 2, none⟩ = some (.int .i64 l) ∧ (W.setCell ⟨gq, 8, none⟩ u).cell? ⟨gq, 3, none⟩ = some (.int .i64 b)) ∧ (W.setCell ⟨gq, 8, none⟩ u).cell? ⟨gq, 4, none⟩ = some (.int .i64 tn) ∧ (W.setCell ⟨gq, 8, none⟩ u).cell? ⟨gq, 6, none⟩ = some (.int .i64 2) ∧ (W.setCell ⟨gq, 8, none⟩ u).cell? ⟨gq, 7, none⟩ = some (.int .u64 now)) := Lib.hid (fun W s' u m => ⟨⟨(m.put 8 u).blk.cell 0, (m.put 8 u).blk.cell 1, (m.put 8 u).blk.cell 2, (m.put 8 u).blk.cell 3⟩, (m.put 8 u).blk.cell 4, (m.put 8 u).blk.cell 6, (m.put 8 u).blk.cell 7⟩)
    have c0 : w.cell? ⟨gq, 0, none⟩ = some (.int .i64 t) := hb.cell 0
    have c1 : w.cell? ⟨gq, 1, none⟩ = some (.int .i64 s) := hb.cell 1
    have c2 : w.cell? ⟨gq, 2, none⟩ = some (.int .i64 l) := hb.cell 2
    have c3 : w.cell? ⟨gq, 3, none⟩ = some (.int .i64 b) := hb.cell 3
    have c4 : w.cell? ⟨gq, 4, none⟩ = some (.int .i64 tn) := hb.cell 4
    have c5 : w.cell? ⟨gq, 5, none⟩ = some (.int .i64 0) := hb.cell 5
    have c6 : w.cell? ⟨gq, 6, none⟩ = some (.int .i64 2) := hb.cell 6
    have c7 : w.cell? ⟨gq, 7, none⟩ = some (.int .u64 now) := hb.cell 7
    clear h hb sd hc HAn0 har
    go_enter Tryz.func32, Tryz.ntmps32
    go_wp2_with fail
    go_region_held3 (fun W => (W.cell? ⟨gq, 0, none⟩ = some (.int .i64 t) ∧ W.cell? ⟨gq, 1, none⟩ = some (.int .i64 s) ∧ W.cell? ⟨gq, 2, none⟩ = some (.int .i64 l) ∧ W.cell? ⟨gq, 3, none⟩ = some (.int .i64 b)) ∧ W.cell? ⟨gq, 4, none⟩ = some (.int .i64 tn) ∧ W.cell? ⟨gq, 6, none⟩ = some (.int .i64 2) ∧ W.cell? ⟨gq, 7, none⟩ = some (.int .u64 now)) (first | exact HP.out _ _ M.out | exact HP2.out _ _ _ M.out | go_keep) (first
      | (go_at_call 120; refine (HAn.out _).mono ?_; rintro e w1 ⟨rfl, x1⟩; replace M := Lib.hid (M.out.ext x1); clear x1)
      | (go_at_call 91; refine (HL.out _ M.out).mono ?_; rintro e w1 ⟨⟨u, rfl⟩, m1⟩; replace M := Lib.hid m1; clear m1))
    all_goals
      have y6 : w1.cell? ⟨gq, 6, none⟩ = some (.int .i64 2) := M.out.blk.cell 6
      have z6 : w1.frozen? ⟨gq, 6, none⟩ = false := M.out.blk.frozen 6
      have M2 := Lib.hid (M.out.put 6 (.int .i64 0))
      go_wp2_with fail
      (first | (refine bodyPost_ret (results_none rfl _ _ _) rfl ?_) | (refine bodyPost_end (results_none rfl _ _ _) rfl ?_))
      exact ⟨⟨_, rfl⟩, M2.out⟩
set_option maxRecDepth 100000 in
set_option maxHeartbeats 4000000 in
theorem rm_ask (h : IsRMem B w g R rv st) (sd : Sound st.dev) (hc : Calm st) (c : CfgN t s l b) (ok : Okay (layF t s l b)) (hw : W64 now) {k : Nat} (hk : k < t) (ht : t ≤ 1000) (hb : Blk w gq 67 (RMa.cells ⟨2, (k : Int) + 2, now, mv⟩ t s l b tn)) (ho : ¬ rfoot g R rv gq) :
    Calls Tryz.prog 32 #[.pointer (some ⟨gq, 0, none⟩), .pointer (some ⟨g, 0, none⟩)] w (RPost B w g R rv gq 67 (RMa.cells ⟨2, if holds now (peekV st (ann (layF t s l b) k)) = true then 0 else (k : Int) + 3, now, mv⟩ t s l b tn) (st.load tn (ann (layF t s l b) k))) := by
    have M0 := Lib.hid (RG.of h hb ho)
    have har := ann_rng ok (k : Int)
    have HL : Hid (∀ W, RG B w W g R rv gq 67 (RMa.cells ⟨2, (k : Int) + 2, now, mv⟩ t s l b tn) st → Calls Tryz.prog 91 #[.pointer (some ⟨g, 0, none⟩), .int .i64 1, .int .i64 tn, .int .i64 (ann (layF t s l b) k), .int .u64 0, .int .u64 0] W fun e w' => e = .returned (accV (st.load tn (ann (layF t s l b) k)).last) ∧ RG B w w' g R rv gq 67 (RMa.cells ⟨2, (k : Int) + 2, now, mv⟩ t s l b tn) (st.load tn (ann (layF t s l b) k))) := Lib.hid (fun W m => (refLoad7v m.ref sd hc tn _ 0 0 har.1 har.2).mono (by rintro e w' ⟨rfl, r1, f1⟩; exact ⟨rfl, m.to r1 f1⟩))
    obtain ⟨a1, a2, a3, a4, a5, ha⟩ := load_tells st tn (ann (layF t s l b) k)
    rw [ha] at HL
    have HAn := Lib.hid (fun W => rann_ok (t := t) (s := s) (l := l) (b := b) c (k : Int) W)
    have hf3 := fun W => fldA3 a1 a2 a3 (peekV st (ann (layF t s l b) k)) a4 a5 W
    have hwn : IntKind.u64.wrap (now + 1) = next64 now := by unfold next64 IntKind.wrap; simp [IntKind.signed, IntKind.bits]
    have wk : (k : Int) + 2 - 2 = (k : Int) := by omega
    have wk2 : IntKind.i64.wrap ((k : Int) + 2 - 2) = (k : Int) := by rw [wk]; exact i64w _ (by omega) (by omega)
    have wk2' : IntKind.i64.wrap (k : Int) = (k : Int) := i64w _ (by omega) (by omega)
    have wk3 : IntKind.i64.wrap ((k : Int) + 2 + 1) = (k : Int) + 3 := by rw [show (k : Int) + 2 + 1 = (k : Int) + 3 by omega]; exact i64w _ (by omega) (by omega)
    have k0 : ((k : Int) + 2 == 0) = false := by rw [beq_eq_false_iff_ne]; omega
    have k0' : ¬ (k : Int) + 2 = 0 := by omega
    have k1 : ((k : Int) + 2 == 1) = false := by rw [beq_eq_false_iff_ne]; omega
    have k1' : ¬ (k : Int) + 2 = 1 := by omega
    have dk : decide ((k : Int) < (t : Int)) = true := by simp; omega
    have dk' : decide (k < t) = true := by simp; omega
    obtain ⟨v, hv⟩ : ∃ v, peekV st (ann (layF t s l b) k) = v := ⟨_, rfl⟩
    rw [hv] at hf3 ha HL
    rw [hv]
    obtain ⟨nx, hnx⟩ : ∃ nx, next64 now = nx := ⟨_, rfl⟩
    have hh : holds now v = ((v != 0) && (v != nx)) := by unfold holds; rw [hnx]
    rw [hnx] at hwn
    obtain ⟨hd, hhd⟩ : ∃ hd, holds now v = hd := ⟨_, rfl⟩
    rw [hhd]
    rw [hhd] at hh
    obtain ⟨ln, hln⟩ : ∃ ln : Int, (if hd = true then (0 : Int) else (k : Int) + 3) = ln := ⟨_, rfl⟩
    rw [hln]
    have HLn := Lib.hid hln
    have HHh := Lib.hid hh
    generalize st.load tn (ann (layF t s l b) k) = st1 at *
    generalize ann (layF t s l b) k = a at *
    generalize (k : Int) + 2 = q at *
    have HP : Hid (∀ W s', RG B w W g R rv gq 67 (RMa.cells ⟨2, q, now, mv⟩ t s l b tn) s' → (W.cell? ⟨gq, 0, none⟩ = some (.int .i64 t) ∧ W.cell? ⟨gq, 1, none⟩ = some (.int .i64 s) ∧ W.cell? ⟨gq, 2, none⟩ = some (.int .i64 l) ∧ W.cell? ⟨gq, 3, none⟩ = some (.int .i64 b)) ∧ W.cell? ⟨gq, 4, none⟩ = some (.int .i64 tn) ∧ W.cell? ⟨gq, 6, none⟩ = some (.int .i64 q) ∧ W.cell? ⟨gq, 7, none⟩ = some (.int .u64 now)) := Lib.hid (fun W s' m => ⟨⟨m.blk.cell 0, m.blk.cell 1, m.blk.cell 2, m.blk.cell 3⟩, m.blk.cell 4, m.blk.cell 6, m.blk.cell 7⟩)
    have HP2 : Hid (∀ W s' u, RG B w W g R rv gq 67 (RMa.cells ⟨2, q, now, mv⟩ t s l b tn) s' → ((W.setCell ⟨gq, 8, none⟩ u).cell? ⟨gq, 0, none⟩ = some (.int .i64 t) ∧ (W.setCell ⟨gq, 8, none⟩ u).cell? ⟨gq, 1, none⟩ = some (.int .i64 s) ∧ (W.setCell ⟨gq, 8, none⟩ u).cell? ⟨gq, 2, none⟩ = some (.int .i64 l) ∧ (W.setCell ⟨gq, 8, none⟩ u).cell? ⟨gq, 3, none⟩ = some (.int .i64 b)) ∧ (W.setCell ⟨gq, 8, none⟩ u).cell? ⟨gq, 4, none⟩ = some (.int .i64 tn) ∧ (W.setCell ⟨gq, 8, none⟩ u).cell? ⟨gq, 6, none⟩ = some (.int .i64 q) ∧ (W.setCell ⟨gq, 8, none⟩ u).cell? ⟨gq, 7, none⟩ = some (.int .u64 now)) := Lib.hid (fun W s' u m => ⟨⟨(m.put 8 u).blk.cell 0, (m.put 8 u).blk.cell 1, (m.put 8 u).blk.cell 2, (m.put 8 u).blk.cell 3⟩, (m.put 8 u).blk.cell 4, (m.put 8 u).blk.cell 6, (m.put 8 u).blk.cell 7⟩)
    have c0 : w.cell? ⟨gq, 0, none⟩ = some (.int .i64 t) := hb.cell 0
    have c1 : w.cell? ⟨gq, 1, none⟩ = some (.int .i64 s) := hb.cell 1
    have c2 : w.cell? ⟨gq, 2, none⟩ = some (.int .i64 l) := hb.cell 2
    have c3 : w.cell? ⟨gq, 3, none⟩ = some (.int .i64 b) := hb.cell 3
    have c4 : w.cell? ⟨gq, 4, none⟩ = some (.int .i64 tn) := hb.cell 4
    have c5 : w.cell? ⟨gq, 5, none⟩ = some (.int .i64 2) := hb.cell 5
    have c6 : w.cell? ⟨gq, 6, none⟩ = some (.int .i64 q) := hb.cell 6
    have c7 : w.cell? ⟨gq, 7, none⟩ = some (.int .u64 now) := hb.cell 7
    clear h hb sd hc ha har hhd hnx hv hln hh
    go_enter Tryz.func32, Tryz.ntmps32
    go_wp2_with fail
    go_quiet (fail)
    have M := Lib.hid ((M0.out.ext (ext_drewN (Ext.refl w) nq)).ext ((Ext.refl _).drew))
    obtain ⟨⟨e0, e1, e2, e3⟩, e4, e6, e7⟩ := HP.out _ _ (M0.out.ext (ext_drewN (Ext.refl w) nq))
    clear c0 c1 c2 c3 c4 c5 c6 c7 M0
    generalize w.drewN nq = w0q at *
    go_wp2_with fail
    go_region_held3 (fun W => (W.cell? ⟨gq, 0, none⟩ = some (.int .i64 t) ∧ W.cell? ⟨gq, 1, none⟩ = some (.int .i64 s) ∧ W.cell? ⟨gq, 2, none⟩ = some (.int .i64 l) ∧ W.cell? ⟨gq, 3, none⟩ = some (.int .i64 b)) ∧ W.cell? ⟨gq, 4, none⟩ = some (.int .i64 tn) ∧ W.cell? ⟨gq, 6, none⟩ = some (.int .i64 q) ∧ W.cell? ⟨gq, 7, none⟩ = some (.int .u64 now)) (first | exact HP.out _ _ M.out | exact HP2.out _ _ _ M.out | go_keep) (first
      | (go_at_call 120; refine (HAn.out _).mono ?_; rintro e w1 ⟨rfl, x1⟩; replace M := Lib.hid (M.out.ext x1); clear x1)
      | (go_at_call 91; refine (HL.out _ M.out).mono ?_; rintro e w1 ⟨rfl, m1⟩; replace M := Lib.hid m1; clear m1))
    all_goals
      have y6 : w1.cell? ⟨gq, 6, none⟩ = some (.int .i64 q) := M.out.blk.cell 6
      have z6 : w1.frozen? ⟨gq, 6, none⟩ = false := M.out.blk.frozen 6
      have m2 := M.out.put 6 (.int .i64 ((k : Int) + 3))
      have y7 : (w1.setCell ⟨gq, 6, none⟩ (.int .i64 ((k : Int) + 3))).cell? ⟨gq, 7, none⟩ = some (.int .u64 now) := m2.blk.cell 7
      have y6b : (w1.setCell ⟨gq, 6, none⟩ (.int .i64 ((k : Int) + 3))).cell? ⟨gq, 6, none⟩ = some (.int .i64 ((k : Int) + 3)) := m2.blk.cell 6
      have z6b : (w1.setCell ⟨gq, 6, none⟩ (.int .i64 ((k : Int) + 3))).frozen? ⟨gq, 6, none⟩ = false := m2.blk.frozen 6
      have M2 := Lib.hid m2
      have M3 := Lib.hid (m2.put 6 (.int .i64 0))
      clear m2
      by_cases v0 : v = 0
      · have b0 : (v != 0) = false := by simp [v0]
        have hdf : hd = false := by rw [HHh.out, b0]; rfl
        have LNf : Hid ((k : Int) + 3 = ln) := Lib.hid (by rw [← HLn.out, hdf]; rfl)
        clear v0
        go_wp2_with fail
        (first | (refine bodyPost_ret (results_none rfl _ _ _) rfl ?_) | (refine bodyPost_end (results_none rfl _ _ _) rfl ?_))
        exact ⟨⟨_, rfl⟩, by rw [← LNf.out]; exact M2.out⟩
      · have b0 : (v != 0) = true := by rw [bne_iff_ne]; exact v0
        by_cases vn : v = nx
        · have b1 : (v != nx) = false := by simp [vn]
          have hdf : hd = false := by rw [HHh.out, b0, b1]; rfl
          have LNf : Hid ((k : Int) + 3 = ln) := Lib.hid (by rw [← HLn.out, hdf]; rfl)
          clear v0 vn
          go_wp2_with fail
          (first | (refine bodyPost_ret (results_none rfl _ _ _) rfl ?_) | (refine bodyPost_end (results_none rfl _ _ _) rfl ?_))
          exact ⟨⟨_, rfl⟩, by rw [← LNf.out]; exact M2.out⟩
        · have b1 : (v != nx) = true := by rw [bne_iff_ne]; exact vn
          have hdf : hd = true := by rw [HHh.out, b0, b1]; rfl
          have LNf : Hid (0 = ln) := Lib.hid (by rw [← HLn.out, hdf]; rfl)
          clear v0 vn
          go_wp2_with fail
          (first | (refine bodyPost_ret (results_none rfl _ _ _) rfl ?_) | (refine bodyPost_end (results_none rfl _ _ _) rfl ?_))
          exact ⟨⟨_, rfl⟩, by rw [← LNf.out]; exact M3.out⟩
set_option maxRecDepth 100000 in
set_option maxHeartbeats 4000000 in
theorem rm_move (h : IsRMem B w g R rv st) (sd : Sound st.dev) (hc : Calm st) (hw : W64 now) (ht : t ≤ 1000) (hb : Blk w gq 67 (RMa.cells ⟨2, (t : Int) + 2, now, mv⟩ t s l b tn)) (ho : ¬ rfoot g R rv gq) :
    Calls Tryz.prog 32 #[.pointer (some ⟨gq, 0, none⟩), .pointer (some ⟨g, 0, none⟩)] w (RPost B w g R rv gq 67 (RMa.cells ⟨2, 0, now, swapB st (-1) now⟩ t s l b tn) (st.swap tn (-1) now (next64 now))) := by
    have M0 := Lib.hid (RG.of h hb ho)
    have HL : Hid (∀ W, RG B w W g R rv gq 67 (RMa.cells ⟨2, (t : Int) + 2, now, mv⟩ t s l b tn) st → Calls Tryz.prog 91 #[.pointer (some ⟨g, 0, none⟩), .int .i64 3, .int .i64 tn, .int .i64 (-1), .int .u64 now, .int .u64 (next64 now)] W fun e w' => e = .returned (accV (st.swap tn (-1) now (next64 now)).last) ∧ RG B w w' g R rv gq 67 (RMa.cells ⟨2, (t : Int) + 2, now, mv⟩ t s l b tn) (st.swap tn (-1) now (next64 now))) := Lib.hid (fun W m => (refSwap7v m.ref sd hc tn (-1) now _ (by decide) (by decide)).mono (by rintro e w' ⟨rfl, r1, f1⟩; exact ⟨rfl, m.to r1 f1⟩))
    obtain ⟨a1, a2, a3, a4, a5, ha⟩ := swap_tells st tn (-1) now (next64 now)
    rw [ha] at HL
    have hf5 := fun W => fldA5 a1 a2 a3 a4 a5 (swapB st (-1) now) W
    have hwn : IntKind.u64.wrap (now + 1) = next64 now := by unfold next64 IntKind.wrap; simp [IntKind.signed, IntKind.bits]
    have wk : (t : Int) + 2 - 2 = (t : Int) := by omega
    have wk2 : IntKind.i64.wrap ((t : Int) + 2 - 2) = (t : Int) := by rw [wk]; exact i64w _ (by omega) (by omega)
    have wk2' : IntKind.i64.wrap (t : Int) = (t : Int) := i64w _ (by omega) (by omega)
    have k0 : ((t : Int) + 2 == 0) = false := by rw [beq_eq_false_iff_ne]; omega
    have k0' : ¬ (t : Int) + 2 = 0 := by omega
    have k1 : ((t : Int) + 2 == 1) = false := by rw [beq_eq_false_iff_ne]; omega
    have k1' : ¬ (t : Int) + 2 = 1 := by omega
    have dk : decide ((t : Int) < (t : Int)) = false := by simp
    have dk' : decide (t < t) = false := by simp
    generalize next64 now = nx at *
    generalize st.swap tn (-1) now nx = st1 at *
    generalize swapB st (-1) now = d at *
    generalize (t : Int) + 2 = q at *
    have HP : Hid (∀ W s', RG B w W g R rv gq 67 (RMa.cells ⟨2, q, now, mv⟩ t s l b tn) s' → (W.cell? ⟨gq, 0, none⟩ = some (.int .i64 t) ∧ W.cell? ⟨gq, 1, none⟩ = some (.int .i64 s) ∧ W.cell? ⟨gq, 2, none⟩ = some (.int .i64 l) ∧ W.cell? ⟨gq, 3, none⟩ = some (.int .i64 b)) ∧ W.cell? ⟨gq, 4, none⟩ = some (.int .i64 tn) ∧ W.cell? ⟨gq, 6, none⟩ = some (.int .i64 q) ∧ W.cell? ⟨gq, 7, none⟩ = some (.int .u64 now)) := Lib.hid (fun W s' m => ⟨⟨m.blk.cell 0, m.blk.cell 1, m.blk.cell 2, m.blk.cell 3⟩, m.blk.cell 4, m.blk.cell 6, m.blk.cell 7⟩)
    have HP2 : Hid (∀ W s' u, RG B w W g R rv gq 67 (RMa.cells ⟨2, q, now, mv⟩ t s l b tn) s' → ((W.setCell ⟨gq, 8, none⟩ u).cell? ⟨gq, 0, none⟩ = some (.int .i64 t) ∧ (W.setCell ⟨gq, 8, none⟩ u).cell? ⟨gq, 1, none⟩ = some (.int .i64 s) ∧ (W.setCell ⟨gq, 8, none⟩ u).cell? ⟨gq, 2, none⟩ = some (.int .i64 l) ∧ (W.setCell ⟨gq, 8, none⟩ u).cell? ⟨gq, 3, none⟩ = some (.int .i64 b)) ∧ (W.setCell ⟨gq, 8, none⟩ u).cell? ⟨gq, 4, none⟩ = some (.int .i64 tn) ∧ (W.setCell ⟨gq, 8, none⟩ u).cell? ⟨gq, 6, none⟩ = some (.int .i64 q) ∧ (W.setCell ⟨gq, 8, none⟩ u).cell? ⟨gq, 7, none⟩ = some (.int .u64 now)) := Lib.hid (fun W s' u m => ⟨⟨(m.put 8 u).blk.cell 0, (m.put 8 u).blk.cell 1, (m.put 8 u).blk.cell 2, (m.put 8 u).blk.cell 3⟩, (m.put 8 u).blk.cell 4, (m.put 8 u).blk.cell 6, (m.put 8 u).blk.cell 7⟩)
    have c0 : w.cell? ⟨gq, 0, none⟩ = some (.int .i64 t) := hb.cell 0
    have c1 : w.cell? ⟨gq, 1, none⟩ = some (.int .i64 s) := hb.cell 1
    have c2 : w.cell? ⟨gq, 2, none⟩ = some (.int .i64 l) := hb.cell 2
    have c3 : w.cell? ⟨gq, 3, none⟩ = some (.int .i64 b) := hb.cell 3
    have c4 : w.cell? ⟨gq, 4, none⟩ = some (.int .i64 tn) := hb.cell 4
    have c5 : w.cell? ⟨gq, 5, none⟩ = some (.int .i64 2) := hb.cell 5
    have c6 : w.cell? ⟨gq, 6, none⟩ = some (.int .i64 q) := hb.cell 6
    have c7 : w.cell? ⟨gq, 7, none⟩ = some (.int .u64 now) := hb.cell 7
    clear h hb sd hc ha
    go_enter Tryz.func32, Tryz.ntmps32
    go_wp2_with fail
    go_quiet (fail)
    have M := Lib.hid ((M0.out.ext (ext_drewN (Ext.refl w) nq)).ext ((Ext.refl _).drew))
    obtain ⟨⟨e0, e1, e2, e3⟩, e4, e6, e7⟩ := HP.out _ _ (M0.out.ext (ext_drewN (Ext.refl w) nq))
    clear c0 c1 c2 c3 c4 c5 c6 c7 M0
    generalize w.drewN nq = w0q at *
    go_wp2_with fail
    go_region_held3 (fun W => (W.cell? ⟨gq, 0, none⟩ = some (.int .i64 t) ∧ W.cell? ⟨gq, 1, none⟩ = some (.int .i64 s) ∧ W.cell? ⟨gq, 2, none⟩ = some (.int .i64 l) ∧ W.cell? ⟨gq, 3, none⟩ = some (.int .i64 b)) ∧ W.cell? ⟨gq, 4, none⟩ = some (.int .i64 tn) ∧ W.cell? ⟨gq, 6, none⟩ = some (.int .i64 q) ∧ W.cell? ⟨gq, 7, none⟩ = some (.int .u64 now)) (first | exact HP.out _ _ M.out | exact HP2.out _ _ _ M.out | go_keep) (first
      | (go_at_call 91; refine (HL.out _ M.out).mono ?_; rintro e w1 ⟨rfl, m1⟩; replace M := Lib.hid m1; have y8 : w1.cell? ⟨gq, 8, none⟩ = some (.bool mv) := M.out.blk.cell 8; have z8 : w1.frozen? ⟨gq, 8, none⟩ = false := M.out.blk.frozen 8; clear m1))
    all_goals
      have m2 := M.out.put 8 (.bool d)
      have y6 : (w1.setCell ⟨gq, 8, none⟩ (.bool d)).cell? ⟨gq, 6, none⟩ = some (.int .i64 q) := m2.blk.cell 6
      have z6 : (w1.setCell ⟨gq, 8, none⟩ (.bool d)).frozen? ⟨gq, 6, none⟩ = false := m2.blk.frozen 6
      have M3 := Lib.hid (m2.put 6 (.int .i64 0))
      clear m2
      go_wp2_with fail
      (first | (refine bodyPost_ret (results_none rfl _ _ _) rfl ?_) | (refine bodyPost_end (results_none rfl _ _ _) rfl ?_))
      exact ⟨⟨_, rfl⟩, M3.out⟩
end
end Go.Proofs.YtfbobdkfibhcnaaGreat

/- The machines of package epoch behind one another's names: made, asked whether they are done, and stepped. Conditions: those that each theorem names. -/
namespace Go.Proofs.YtfbobdkfibhcnaaGreat
open Go.ChangeShapes Go.WideShapes Go.ChangeAt Go.RowKit
set_option linter.unusedVariables false
theorem cell_ext {w w' : World} {p : Addr} {v : Value} (h : w.cell? p = some v) (x : Ext w w') : w'.cell? p = some v := (World.cell?_of_block (x.block p.block (World.block_lt_of_cell? w p h))).trans h
theorem results_made {P : Program} {fn : Func} {p u : Tmp} {ty : TypeId} (h : fn.results = #[.cell p ty, .tmp u]) (tmps : Array Value) (w : World) (g : Nat) (t : TypeId) (cs : Array Value) (fr : Nat × Nat) (d : TypeDesc)
    (hp : tmps.getD p undef = .pointer (some ⟨g, 0, none⟩)) (hg : w.heap[g]? = some (.cells cs t fr)) (hu : P.underlying ty = some d) (hd : (match d with | .struct _ | .array _ _ => true | _ => false) = true) (hi : (P.info? ty).map (·.size) = some cs.size) :
    (results fn tmps).run P w = .ok (.tuple #[.agg cs, tmps.getD u undef]) w := by
  rw [results_cell_tmp h, hp]
  simp [asAddr, run_loadVar_row w g t ty cs fr d hg hu hd hi, Result.andThen]
def newMc (kd : Int) (g : Nat) : Mc := if kd = 0 then .ent g (false, false, 0) else if kd = 1 then .lea g false else .adv g ⟨false, false, 0, 0, false⟩
/-- What a machine that is made has. -/
structure Made (w : World) (gl : Nat) (t s l b kd tn : Int) (w' : World) (g gr : Nat) : Prop where
  g0 : w.heap.size ≤ g
  r0 : w.heap.size ≤ gr
  ne : g ≠ gr
  own : ∃ T cs, (newMc kd g).own gl tn = some (g, T, cs) ∧ Blk w' g T cs
  r : Blk w' gr 67 [.int .i64 t, .int .i64 s, .int .i64 l, .int .i64 b, .int .i64 tn, .int .i64 kd, .int .i64 1, .int .u64 0, .bool false]
  x : Ext w w'
def MadeP (w : World) (gl : Nat) (t s l b kd tn : Int) (e : Ending) (w' : World) : Prop := ∃ g gr, e = .returned (.tuple #[.agg #[.pointer (newMc kd g).pE, .pointer (newMc kd g).pL, .pointer (newMc kd g).pA], .pointer (some ⟨gr, 0, none⟩)]) ∧ Made w gl t s l b kd tn w' g gr
set_option maxRecDepth 100000 in
set_option maxHeartbeats 4000000 in
theorem made_0 (w : World) (gl : Nat) (t s l b kd tn : Int) (hk : kd = 0) :
    Calls Tryz.prog 30 #[.pointer (some ⟨gl, 0, none⟩), .agg #[.int .i64 t, .int .i64 s, .int .i64 l, .int .i64 b], .int .i64 kd, .int .i64 tn] w (MadeP w gl t s l b kd tn) := by
  subst hk
  have x1 := (Ext.refl w).alloc (.cells #[.int .i64 t, .int .i64 s, .int .i64 l, .int .i64 b] 23)
  have bc := Blk.new w 23 [.int .i64 t, .int .i64 s, .int .i64 l, .int .i64 b]
  have x2 := x1.alloc (.cells #[.pointer none, .pointer none, .pointer none] 62)
  have bm := Blk.new (w.alloc (.cells #[.int .i64 t, .int .i64 s, .int .i64 l, .int .i64 b] 23)) 62 [.pointer none, .pointer none, .pointer none]
  have bc2 := bc.ext ((Ext.refl _).alloc (.cells #[.pointer none, .pointer none, .pointer none] 62))
  simp only [World.size_alloc] at bm
  go_enter Tryz.func30, Tryz.ntmps30
  go_upto_region 1 with fail
  generalize (w.alloc (.cells #[.int .i64 t, .int .i64 s, .int .i64 l, .int .i64 b] 23)).alloc (.cells #[.pointer none, .pointer none, .pointer none] 62) = w2 at *
  have y0 : w2.cell? ⟨w.heap.size, 0, none⟩ = some (.int .i64 t) := bc2.cell 0
  have y1 : w2.cell? ⟨w.heap.size, 1, none⟩ = some (.int .i64 s) := bc2.cell 1
  have y2 : w2.cell? ⟨w.heap.size, 2, none⟩ = some (.int .i64 l) := bc2.cell 2
  have y3 : w2.cell? ⟨w.heap.size, 3, none⟩ = some (.int .i64 b) := bc2.cell 3
  go_upto_region 2 with fail
  have x3 := (Ext.refl w2).alloc (.cells #[.int .i64 t, .int .i64 s, .int .i64 l, .int .i64 b, .int .i64 tn, .int .i64 0, .int .i64 1, .int .u64 0, .bool false] 67)
  have br := Blk.new w2 67 [.int .i64 t, .int .i64 s, .int .i64 l, .int .i64 b, .int .i64 tn, .int .i64 0, .int .i64 1, .int .u64 0, .bool false]
  have bm3 := bm.ext x3
  have hs2 := x2.size
  have hms := bm.lt
  generalize w2.alloc (.cells #[.int .i64 t, .int .i64 s, .int .i64 l, .int .i64 b, .int .i64 tn, .int .i64 0, .int .i64 1, .int .u64 0, .bool false] 67) = w3 at *
  have X3 := Lib.hid (x2.trans x3)
  have BR := Lib.hid br
  have BM := Lib.hid bm3
  have HS := Lib.hid (show w.heap.size ≤ w2.heap.size ∧ w.heap.size + 1 < w2.heap.size from ⟨hs2, hms⟩)
  clear x1 bc x2 bm bc2 x3 br bm3 hs2 hms y0 y1 y2 y3
  generalize w2.heap.size = gr at *
  go_wp2_with fail
  refine (newEnter_ok w3 gl tn).mono ?_
  rintro e w4 ⟨g, rfl, lg, bg, x4⟩
  have hb4 := BM.out.ext x4
  have HTh : Hid (w4.there (w.heap.size + 1) 0 3) := Lib.hid (fun j hj => ⟨by
    have h := hb4.cell (0 + j)
    rw [h]
    have hj3 : j = 0 ∨ j = 1 ∨ j = 2 := by omega
    rcases hj3 with rfl | rfl | rfl <;> rfl, hb4.frozen _⟩)
  have hr3 := BR.out.lt
  have m1 := ((hb4.set 0 (.pointer (some ⟨g, 0, none⟩))).set 1 (.pointer none)).set 2 (.pointer none)
  have x5 : Ext w (((w4.setCell ⟨w.heap.size + 1, 0, none⟩ (.pointer (some ⟨g, 0, none⟩))).setCell ⟨w.heap.size + 1, 1, none⟩ (.pointer none)).setCell ⟨w.heap.size + 1, 2, none⟩ (.pointer none)) := (((X3.out.trans x4).setCell (p := ⟨w.heap.size + 1, 0, none⟩) (by show w.heap.size ≤ w.heap.size + 1; omega) _).setCell (p := ⟨w.heap.size + 1, 1, none⟩) (by show w.heap.size ≤ w.heap.size + 1; omega) _).setCell (p := ⟨w.heap.size + 1, 2, none⟩) (by show w.heap.size ≤ w.heap.size + 1; omega) _
  have hne1 : g ≠ w.heap.size + 1 := by have := HS.out.2; omega
  have hne2 : gr ≠ w.heap.size + 1 := by have := HS.out.2; omega
  have MD : Hid (Made w gl t s l b 0 tn (((w4.setCell ⟨w.heap.size + 1, 0, none⟩ (.pointer (some ⟨g, 0, none⟩))).setCell ⟨w.heap.size + 1, 1, none⟩ (.pointer none)).setCell ⟨w.heap.size + 1, 2, none⟩ (.pointer none)) g gr) := Lib.hid
    ⟨by have := HS.out.1; omega, HS.out.1, by omega, ⟨239, [.pointer (some ⟨gl, 0, none⟩), .int .i64 tn, .bool false, .bool false, .int .u64 0], by rw [show newMc 0 g = .ent g (false, false, 0) from rfl]; rfl, ((bg.far (p := ⟨w.heap.size + 1, 0, none⟩) hne1 _).far (p := ⟨w.heap.size + 1, 1, none⟩) hne1 _).far (p := ⟨w.heap.size + 1, 2, none⟩) hne1 _⟩,
      (((BR.out.ext x4).far (p := ⟨w.heap.size + 1, 0, none⟩) hne2 _).far (p := ⟨w.heap.size + 1, 1, none⟩) hne2 _).far (p := ⟨w.heap.size + 1, 2, none⟩) hne2 _, x5⟩
  have M1 := Lib.hid m1
  clear hb4 m1 x5 lg bg x4 hne1 hne2 hr3
  go_wp2_with ((with_reducible refine (id ?_ : wpList _ _ _ ({ dst := none, op := Op.store _ _ _, type := _, pos := _, after := _, guard := _ } :: _) _ _)); refine Hid.out ?_)
  refine Lib.hid ?_
  refine wpList_store_mid rfl _ (.tmp 8) (.tmp 21) rfl (w.heap.size + 1) 0 #[.pointer (some ⟨g, 0, none⟩), .pointer none, .pointer none] (by rfl) (by rfl) HTh.out (by kernel_rfl) (by simp [Value.oneCell']) ?_
  go_wp2_with fail
  (try simp only [Exit.inBlock, Exit.then])
  refine bodyPost_ret (results_made rfl _ _ (w.heap.size + 1) 62 #[.pointer (some ⟨g, 0, none⟩), .pointer none, .pointer none] (0, 0) _ (by rfl) M1.out Tryz.underlying62 rfl (by kernel_rfl)) rfl ?_
  refine ⟨g, gr, ?_, MD.out⟩
  rw [show newMc 0 g = .ent g (false, false, 0) from rfl]
  rfl
set_option maxRecDepth 100000 in
set_option maxHeartbeats 4000000 in
theorem made_1 (w : World) (gl : Nat) (t s l b kd tn : Int) (hk : kd = 1) :
    Calls Tryz.prog 30 #[.pointer (some ⟨gl, 0, none⟩), .agg #[.int .i64 t, .int .i64 s, .int .i64 l, .int .i64 b], .int .i64 kd, .int .i64 tn] w (MadeP w gl t s l b kd tn) := by
  subst hk
  have x1 := (Ext.refl w).alloc (.cells #[.int .i64 t, .int .i64 s, .int .i64 l, .int .i64 b] 23)
  have bc := Blk.new w 23 [.int .i64 t, .int .i64 s, .int .i64 l, .int .i64 b]
  have x2 := x1.alloc (.cells #[.pointer none, .pointer none, .pointer none] 62)
  have bm := Blk.new (w.alloc (.cells #[.int .i64 t, .int .i64 s, .int .i64 l, .int .i64 b] 23)) 62 [.pointer none, .pointer none, .pointer none]
  have bc2 := bc.ext ((Ext.refl _).alloc (.cells #[.pointer none, .pointer none, .pointer none] 62))
  simp only [World.size_alloc] at bm
  go_enter Tryz.func30, Tryz.ntmps30
  go_upto_region 1 with fail
  generalize (w.alloc (.cells #[.int .i64 t, .int .i64 s, .int .i64 l, .int .i64 b] 23)).alloc (.cells #[.pointer none, .pointer none, .pointer none] 62) = w2 at *
  have y0 : w2.cell? ⟨w.heap.size, 0, none⟩ = some (.int .i64 t) := bc2.cell 0
  have y1 : w2.cell? ⟨w.heap.size, 1, none⟩ = some (.int .i64 s) := bc2.cell 1
  have y2 : w2.cell? ⟨w.heap.size, 2, none⟩ = some (.int .i64 l) := bc2.cell 2
  have y3 : w2.cell? ⟨w.heap.size, 3, none⟩ = some (.int .i64 b) := bc2.cell 3
  go_upto_region 2 with fail
  have x3 := (Ext.refl w2).alloc (.cells #[.int .i64 t, .int .i64 s, .int .i64 l, .int .i64 b, .int .i64 tn, .int .i64 1, .int .i64 1, .int .u64 0, .bool false] 67)
  have br := Blk.new w2 67 [.int .i64 t, .int .i64 s, .int .i64 l, .int .i64 b, .int .i64 tn, .int .i64 1, .int .i64 1, .int .u64 0, .bool false]
  have bm3 := bm.ext x3
  have hs2 := x2.size
  have hms := bm.lt
  generalize w2.alloc (.cells #[.int .i64 t, .int .i64 s, .int .i64 l, .int .i64 b, .int .i64 tn, .int .i64 1, .int .i64 1, .int .u64 0, .bool false] 67) = w3 at *
  have X3 := Lib.hid (x2.trans x3)
  have BR := Lib.hid br
  have BM := Lib.hid bm3
  have HS := Lib.hid (show w.heap.size ≤ w2.heap.size ∧ w.heap.size + 1 < w2.heap.size from ⟨hs2, hms⟩)
  clear x1 bc x2 bm bc2 x3 br bm3 hs2 hms y0 y1 y2 y3
  generalize w2.heap.size = gr at *
  go_wp2_with fail
  refine (newLeave_ok w3 gl tn).mono ?_
  rintro e w4 ⟨g, rfl, lg, bg, x4⟩
  have hb4 := BM.out.ext x4
  have HTh : Hid (w4.there (w.heap.size + 1) 0 3) := Lib.hid (fun j hj => ⟨by
    have h := hb4.cell (0 + j)
    rw [h]
    have hj3 : j = 0 ∨ j = 1 ∨ j = 2 := by omega
    rcases hj3 with rfl | rfl | rfl <;> rfl, hb4.frozen _⟩)
  have hr3 := BR.out.lt
  have m1 := ((hb4.set 0 (.pointer none)).set 1 (.pointer (some ⟨g, 0, none⟩))).set 2 (.pointer none)
  have x5 : Ext w (((w4.setCell ⟨w.heap.size + 1, 0, none⟩ (.pointer none)).setCell ⟨w.heap.size + 1, 1, none⟩ (.pointer (some ⟨g, 0, none⟩))).setCell ⟨w.heap.size + 1, 2, none⟩ (.pointer none)) := (((X3.out.trans x4).setCell (p := ⟨w.heap.size + 1, 0, none⟩) (by show w.heap.size ≤ w.heap.size + 1; omega) _).setCell (p := ⟨w.heap.size + 1, 1, none⟩) (by show w.heap.size ≤ w.heap.size + 1; omega) _).setCell (p := ⟨w.heap.size + 1, 2, none⟩) (by show w.heap.size ≤ w.heap.size + 1; omega) _
  have hne1 : g ≠ w.heap.size + 1 := by have := HS.out.2; omega
  have hne2 : gr ≠ w.heap.size + 1 := by have := HS.out.2; omega
  have MD : Hid (Made w gl t s l b 1 tn (((w4.setCell ⟨w.heap.size + 1, 0, none⟩ (.pointer none)).setCell ⟨w.heap.size + 1, 1, none⟩ (.pointer (some ⟨g, 0, none⟩))).setCell ⟨w.heap.size + 1, 2, none⟩ (.pointer none)) g gr) := Lib.hid
    ⟨by have := HS.out.1; omega, HS.out.1, by omega, ⟨245, [.pointer (some ⟨gl, 0, none⟩), .int .i64 tn, .bool false], by rw [show newMc 1 g = .lea g false from rfl]; rfl, ((bg.far (p := ⟨w.heap.size + 1, 0, none⟩) hne1 _).far (p := ⟨w.heap.size + 1, 1, none⟩) hne1 _).far (p := ⟨w.heap.size + 1, 2, none⟩) hne1 _⟩,
      (((BR.out.ext x4).far (p := ⟨w.heap.size + 1, 0, none⟩) hne2 _).far (p := ⟨w.heap.size + 1, 1, none⟩) hne2 _).far (p := ⟨w.heap.size + 1, 2, none⟩) hne2 _, x5⟩
  have M1 := Lib.hid m1
  clear hb4 m1 x5 lg bg x4 hne1 hne2 hr3
  go_wp2_with ((with_reducible refine (id ?_ : wpList _ _ _ ({ dst := none, op := Op.store _ _ _, type := _, pos := _, after := _, guard := _ } :: _) _ _)); refine Hid.out ?_)
  refine Lib.hid ?_
  refine wpList_store_mid rfl _ (.tmp 8) (.tmp 28) rfl (w.heap.size + 1) 0 #[.pointer none, .pointer (some ⟨g, 0, none⟩), .pointer none] (by rfl) (by rfl) HTh.out (by kernel_rfl) (by simp [Value.oneCell']) ?_
  go_wp2_with fail
  (try simp only [Exit.inBlock, Exit.then])
  refine bodyPost_ret (results_made rfl _ _ (w.heap.size + 1) 62 #[.pointer none, .pointer (some ⟨g, 0, none⟩), .pointer none] (0, 0) _ (by rfl) M1.out Tryz.underlying62 rfl (by kernel_rfl)) rfl ?_
  refine ⟨g, gr, ?_, MD.out⟩
  rw [show newMc 1 g = .lea g false from rfl]
  rfl
set_option maxRecDepth 100000 in
set_option maxHeartbeats 4000000 in
theorem made_2 (w : World) (gl : Nat) (t s l b kd tn : Int) (hk : kd ≠ 0) (hk1 : kd ≠ 1) :
    Calls Tryz.prog 30 #[.pointer (some ⟨gl, 0, none⟩), .agg #[.int .i64 t, .int .i64 s, .int .i64 l, .int .i64 b], .int .i64 kd, .int .i64 tn] w (MadeP w gl t s l b kd tn) := by
  have d0 : (kd == 0) = false := by rw [beq_eq_false_iff_ne]; exact hk
  have d1 : (kd == 1) = false := by rw [beq_eq_false_iff_ne]; exact hk1
  have e0 : decide (kd = 0) = false := by simpa using hk
  have e1 : decide (kd = 1) = false := by simpa using hk1
  have x1 := (Ext.refl w).alloc (.cells #[.int .i64 t, .int .i64 s, .int .i64 l, .int .i64 b] 23)
  have bc := Blk.new w 23 [.int .i64 t, .int .i64 s, .int .i64 l, .int .i64 b]
  have x2 := x1.alloc (.cells #[.pointer none, .pointer none, .pointer none] 62)
  have bm := Blk.new (w.alloc (.cells #[.int .i64 t, .int .i64 s, .int .i64 l, .int .i64 b] 23)) 62 [.pointer none, .pointer none, .pointer none]
  have bc2 := bc.ext ((Ext.refl _).alloc (.cells #[.pointer none, .pointer none, .pointer none] 62))
  simp only [World.size_alloc] at bm
  go_enter Tryz.func30, Tryz.ntmps30
  go_upto_region 1 with fail
  generalize (w.alloc (.cells #[.int .i64 t, .int .i64 s, .int .i64 l, .int .i64 b] 23)).alloc (.cells #[.pointer none, .pointer none, .pointer none] 62) = w2 at *
  have y0 : w2.cell? ⟨w.heap.size, 0, none⟩ = some (.int .i64 t) := bc2.cell 0
  have y1 : w2.cell? ⟨w.heap.size, 1, none⟩ = some (.int .i64 s) := bc2.cell 1
  have y2 : w2.cell? ⟨w.heap.size, 2, none⟩ = some (.int .i64 l) := bc2.cell 2
  have y3 : w2.cell? ⟨w.heap.size, 3, none⟩ = some (.int .i64 b) := bc2.cell 3
  go_upto_region 2 with fail
  have x3 := (Ext.refl w2).alloc (.cells #[.int .i64 t, .int .i64 s, .int .i64 l, .int .i64 b, .int .i64 tn, .int .i64 kd, .int .i64 1, .int .u64 0, .bool false] 67)
  have br := Blk.new w2 67 [.int .i64 t, .int .i64 s, .int .i64 l, .int .i64 b, .int .i64 tn, .int .i64 kd, .int .i64 1, .int .u64 0, .bool false]
  have bm3 := bm.ext x3
  have hs2 := x2.size
  have hms := bm.lt
  generalize w2.alloc (.cells #[.int .i64 t, .int .i64 s, .int .i64 l, .int .i64 b, .int .i64 tn, .int .i64 kd, .int .i64 1, .int .u64 0, .bool false] 67) = w3 at *
  have X3 := Lib.hid (x2.trans x3)
  have BR := Lib.hid br
  have BM := Lib.hid bm3
  have HS := Lib.hid (show w.heap.size ≤ w2.heap.size ∧ w.heap.size + 1 < w2.heap.size from ⟨hs2, hms⟩)
  clear x1 bc x2 bm bc2 x3 br bm3 hs2 hms y0 y1 y2 y3
  generalize w2.heap.size = gr at *
  go_wp2_with fail
  refine (newAdvance_ok w3 gl tn).mono ?_
  rintro e w4 ⟨g, rfl, lg, bg, x4⟩
  have hb4 := BM.out.ext x4
  have HTh : Hid (w4.there (w.heap.size + 1) 0 3) := Lib.hid (fun j hj => ⟨by
    have h := hb4.cell (0 + j)
    rw [h]
    have hj3 : j = 0 ∨ j = 1 ∨ j = 2 := by omega
    rcases hj3 with rfl | rfl | rfl <;> rfl, hb4.frozen _⟩)
  have hr3 := BR.out.lt
  have m1 := ((hb4.set 0 (.pointer none)).set 1 (.pointer none)).set 2 (.pointer (some ⟨g, 0, none⟩))
  have x5 : Ext w (((w4.setCell ⟨w.heap.size + 1, 0, none⟩ (.pointer none)).setCell ⟨w.heap.size + 1, 1, none⟩ (.pointer none)).setCell ⟨w.heap.size + 1, 2, none⟩ (.pointer (some ⟨g, 0, none⟩))) := (((X3.out.trans x4).setCell (p := ⟨w.heap.size + 1, 0, none⟩) (by show w.heap.size ≤ w.heap.size + 1; omega) _).setCell (p := ⟨w.heap.size + 1, 1, none⟩) (by show w.heap.size ≤ w.heap.size + 1; omega) _).setCell (p := ⟨w.heap.size + 1, 2, none⟩) (by show w.heap.size ≤ w.heap.size + 1; omega) _
  have hne1 : g ≠ w.heap.size + 1 := by have := HS.out.2; omega
  have hne2 : gr ≠ w.heap.size + 1 := by have := HS.out.2; omega
  have MD : Hid (Made w gl t s l b kd tn (((w4.setCell ⟨w.heap.size + 1, 0, none⟩ (.pointer none)).setCell ⟨w.heap.size + 1, 1, none⟩ (.pointer none)).setCell ⟨w.heap.size + 1, 2, none⟩ (.pointer (some ⟨g, 0, none⟩))) g gr) := Lib.hid
    ⟨by have := HS.out.1; omega, HS.out.1, by omega, ⟨180, (acells gl tn false false 0 0 false), by rw [show newMc kd g = .adv g ⟨false, false, 0, 0, false⟩ from by unfold newMc; rw [if_neg hk, if_neg hk1]]; rfl, ((bg.far (p := ⟨w.heap.size + 1, 0, none⟩) hne1 _).far (p := ⟨w.heap.size + 1, 1, none⟩) hne1 _).far (p := ⟨w.heap.size + 1, 2, none⟩) hne1 _⟩,
      (((BR.out.ext x4).far (p := ⟨w.heap.size + 1, 0, none⟩) hne2 _).far (p := ⟨w.heap.size + 1, 1, none⟩) hne2 _).far (p := ⟨w.heap.size + 1, 2, none⟩) hne2 _, x5⟩
  have M1 := Lib.hid m1
  clear hb4 m1 x5 lg bg x4 hne1 hne2 hr3
  go_wp2_with ((with_reducible refine (id ?_ : wpList _ _ _ ({ dst := none, op := Op.store _ _ _, type := _, pos := _, after := _, guard := _ } :: _) _ _)); refine Hid.out ?_)
  refine Lib.hid ?_
  refine wpList_store_mid rfl _ (.tmp 8) (.tmp 33) rfl (w.heap.size + 1) 0 #[.pointer none, .pointer none, .pointer (some ⟨g, 0, none⟩)] (by rfl) (by rfl) HTh.out (by kernel_rfl) (by simp [Value.oneCell']) ?_
  go_wp2_with fail
  (try simp only [Exit.inBlock, Exit.then])
  refine bodyPost_ret (results_made rfl _ _ (w.heap.size + 1) 62 #[.pointer none, .pointer none, .pointer (some ⟨g, 0, none⟩)] (0, 0) _ (by rfl) M1.out Tryz.underlying62 rfl (by kernel_rfl)) rfl ?_
  refine ⟨g, gr, ?_, MD.out⟩
  rw [show newMc kd g = .adv g ⟨false, false, 0, 0, false⟩ from by unfold newMc; rw [if_neg hk, if_neg hk1]]
  rfl
theorem made_ok (w : World) (gl : Nat) (t s l b kd tn : Int) :
    Calls Tryz.prog 30 #[.pointer (some ⟨gl, 0, none⟩), .agg #[.int .i64 t, .int .i64 s, .int .i64 l, .int .i64 b], .int .i64 kd, .int .i64 tn] w (MadeP w gl t s l b kd tn) := by
  by_cases h0 : kd = 0
  · subst h0
    exact made_0 w gl t s l b 0 tn rfl
  by_cases h1 : kd = 1
  · subst h1
    exact made_1 w gl t s l b 1 tn rfl
  exact made_2 w gl t s l b kd tn h0 h1
/-- Whether it is done. -/
def Mc.At (m : Mc) (w : World) : Prop :=
  match m with
  | .non => True
  | .ent g x => w.cell? ⟨g, 2, none⟩ = some (.bool x.1)
  | .lea g d => w.cell? ⟨g, 2, none⟩ = some (.bool d)
  | .adv g x => w.cell? ⟨g, 2, none⟩ = some (.bool x.dn)
set_option maxRecDepth 100000 in
set_option maxHeartbeats 2000000 in
theorem mdone_non (w : World)  : Calls Tryz.prog 33 #[.agg #[.pointer none, .pointer none, .pointer none]] w fun e w' => e = .returned (.bool true) ∧ Ext w w' := by
  have x0 := (Ext.refl w).alloc (.cells #[.pointer none, .pointer none, .pointer none] 62)
  have b0 := Blk.new w 62 [.pointer none, .pointer none, .pointer none]
  go_enter Tryz.func33, Tryz.ntmps33
  go_upto_region 1 with fail
  have X0 := Lib.hid x0
  have HCC := Lib.hid (fun W (x : Ext (w.alloc (.cells #[.pointer none, .pointer none, .pointer none] 62)) W) => (show W.cell? ⟨w.heap.size, 0, none⟩ = some (.pointer none) ∧ W.cell? ⟨w.heap.size, 1, none⟩ = some (.pointer none) ∧ W.cell? ⟨w.heap.size, 2, none⟩ = some (.pointer none) from ⟨(b0.ext x).cell 0, (b0.ext x).cell 1, (b0.ext x).cell 2⟩))
  generalize w.alloc (.cells #[.pointer none, .pointer none, .pointer none] 62) = w1 at *
  obtain ⟨c0, c1, c2⟩ := HCC.out w1 (Ext.refl _)
  clear x0 b0
  go_wp2_with fail
  refine (doneEnter_nil _).mono ?_
  rintro e w' ⟨rfl, rfl⟩
  go_wp2_with fail
  refine (doneLeave_nil _).mono ?_
  rintro e w' ⟨rfl, rfl⟩
  go_wp2_with fail
  refine (doneAdvance_nil _).mono ?_
  rintro e w' ⟨rfl, rfl⟩
  go_wp2_with fail
  go_ret
  exact ⟨rfl, X0.out⟩
set_option maxRecDepth 100000 in
set_option maxHeartbeats 2000000 in
theorem mdone_ent (w : World) (g : Nat) (d : Bool) (h : w.cell? ⟨g, 2, none⟩ = some (.bool d)) : Calls Tryz.prog 33 #[.agg #[.pointer (some ⟨g, 0, none⟩), .pointer none, .pointer none]] w fun e w' => e = .returned (.bool d) ∧ Ext w w' := by
  have x0 := (Ext.refl w).alloc (.cells #[.pointer (some ⟨g, 0, none⟩), .pointer none, .pointer none] 62)
  have b0 := Blk.new w 62 [.pointer (some ⟨g, 0, none⟩), .pointer none, .pointer none]
  have h1 : ∀ W, Ext (w.alloc (.cells #[.pointer (some ⟨g, 0, none⟩), .pointer none, .pointer none] 62)) W → W.cell? ⟨g, 2, none⟩ = some (.bool d) := fun W x => cell_ext h (x0.trans x)
  go_enter Tryz.func33, Tryz.ntmps33
  go_upto_region 1 with fail
  have X0 := Lib.hid x0
  have HCC := Lib.hid (fun W (x : Ext (w.alloc (.cells #[.pointer (some ⟨g, 0, none⟩), .pointer none, .pointer none] 62)) W) => (show W.cell? ⟨w.heap.size, 0, none⟩ = some (.pointer (some ⟨g, 0, none⟩)) ∧ W.cell? ⟨w.heap.size, 1, none⟩ = some (.pointer none) ∧ W.cell? ⟨w.heap.size, 2, none⟩ = some (.pointer none) from ⟨(b0.ext x).cell 0, (b0.ext x).cell 1, (b0.ext x).cell 2⟩))
  generalize w.alloc (.cells #[.pointer (some ⟨g, 0, none⟩), .pointer none, .pointer none] 62) = w1 at *
  obtain ⟨c0, c1, c2⟩ := HCC.out w1 (Ext.refl _)
  clear x0 b0
  cases d
  · go_wp2_with fail
    refine (doneEnter_ok _ g _ (h1 _ (Ext.refl _))).mono ?_
    rintro e w' ⟨rfl, rfl⟩
    go_wp2_with fail
    go_ret
    exact ⟨rfl, X0.out⟩
  · go_wp2_with fail
    refine (doneEnter_ok _ g _ (h1 _ (Ext.refl _))).mono ?_
    rintro e w' ⟨rfl, rfl⟩
    go_wp2_with fail
    refine (doneLeave_nil _).mono ?_
    rintro e w' ⟨rfl, rfl⟩
    go_wp2_with fail
    refine (doneAdvance_nil _).mono ?_
    rintro e w' ⟨rfl, rfl⟩
    go_wp2_with fail
    go_ret
    exact ⟨rfl, X0.out⟩
set_option maxRecDepth 100000 in
set_option maxHeartbeats 2000000 in
theorem mdone_lea (w : World) (g : Nat) (d : Bool) (h : w.cell? ⟨g, 2, none⟩ = some (.bool d)) : Calls Tryz.prog 33 #[.agg #[.pointer none, .pointer (some ⟨g, 0, none⟩), .pointer none]] w fun e w' => e = .returned (.bool d) ∧ Ext w w' := by
  have x0 := (Ext.refl w).alloc (.cells #[.pointer none, .pointer (some ⟨g, 0, none⟩), .pointer none] 62)
  have b0 := Blk.new w 62 [.pointer none, .pointer (some ⟨g, 0, none⟩), .pointer none]
  have h1 : ∀ W, Ext (w.alloc (.cells #[.pointer none, .pointer (some ⟨g, 0, none⟩), .pointer none] 62)) W → W.cell? ⟨g, 2, none⟩ = some (.bool d) := fun W x => cell_ext h (x0.trans x)
  go_enter Tryz.func33, Tryz.ntmps33
  go_upto_region 1 with fail
  have X0 := Lib.hid x0
  have HCC := Lib.hid (fun W (x : Ext (w.alloc (.cells #[.pointer none, .pointer (some ⟨g, 0, none⟩), .pointer none] 62)) W) => (show W.cell? ⟨w.heap.size, 0, none⟩ = some (.pointer none) ∧ W.cell? ⟨w.heap.size, 1, none⟩ = some (.pointer (some ⟨g, 0, none⟩)) ∧ W.cell? ⟨w.heap.size, 2, none⟩ = some (.pointer none) from ⟨(b0.ext x).cell 0, (b0.ext x).cell 1, (b0.ext x).cell 2⟩))
  generalize w.alloc (.cells #[.pointer none, .pointer (some ⟨g, 0, none⟩), .pointer none] 62) = w1 at *
  obtain ⟨c0, c1, c2⟩ := HCC.out w1 (Ext.refl _)
  clear x0 b0
  cases d
  · go_wp2_with fail
    refine (doneEnter_nil _).mono ?_
    rintro e w' ⟨rfl, rfl⟩
    go_wp2_with fail
    refine (doneLeave_ok _ g _ (h1 _ (Ext.refl _))).mono ?_
    rintro e w' ⟨rfl, rfl⟩
    go_wp2_with fail
    go_ret
    exact ⟨rfl, X0.out⟩
  · go_wp2_with fail
    refine (doneEnter_nil _).mono ?_
    rintro e w' ⟨rfl, rfl⟩
    go_wp2_with fail
    refine (doneLeave_ok _ g _ (h1 _ (Ext.refl _))).mono ?_
    rintro e w' ⟨rfl, rfl⟩
    go_wp2_with fail
    refine (doneAdvance_nil _).mono ?_
    rintro e w' ⟨rfl, rfl⟩
    go_wp2_with fail
    go_ret
    exact ⟨rfl, X0.out⟩
set_option maxRecDepth 100000 in
set_option maxHeartbeats 2000000 in
theorem mdone_adv (w : World) (g : Nat) (d : Bool) (h : w.cell? ⟨g, 2, none⟩ = some (.bool d)) : Calls Tryz.prog 33 #[.agg #[.pointer none, .pointer none, .pointer (some ⟨g, 0, none⟩)]] w fun e w' => e = .returned (.bool d) ∧ Ext w w' := by
  have x0 := (Ext.refl w).alloc (.cells #[.pointer none, .pointer none, .pointer (some ⟨g, 0, none⟩)] 62)
  have b0 := Blk.new w 62 [.pointer none, .pointer none, .pointer (some ⟨g, 0, none⟩)]
  have h1 : ∀ W, Ext (w.alloc (.cells #[.pointer none, .pointer none, .pointer (some ⟨g, 0, none⟩)] 62)) W → W.cell? ⟨g, 2, none⟩ = some (.bool d) := fun W x => cell_ext h (x0.trans x)
  go_enter Tryz.func33, Tryz.ntmps33
  go_upto_region 1 with fail
  have X0 := Lib.hid x0
  have HCC := Lib.hid (fun W (x : Ext (w.alloc (.cells #[.pointer none, .pointer none, .pointer (some ⟨g, 0, none⟩)] 62)) W) => (show W.cell? ⟨w.heap.size, 0, none⟩ = some (.pointer none) ∧ W.cell? ⟨w.heap.size, 1, none⟩ = some (.pointer none) ∧ W.cell? ⟨w.heap.size, 2, none⟩ = some (.pointer (some ⟨g, 0, none⟩)) from ⟨(b0.ext x).cell 0, (b0.ext x).cell 1, (b0.ext x).cell 2⟩))
  generalize w.alloc (.cells #[.pointer none, .pointer none, .pointer (some ⟨g, 0, none⟩)] 62) = w1 at *
  obtain ⟨c0, c1, c2⟩ := HCC.out w1 (Ext.refl _)
  clear x0 b0
  cases d
  · go_wp2_with fail
    refine (doneEnter_nil _).mono ?_
    rintro e w' ⟨rfl, rfl⟩
    go_wp2_with fail
    refine (doneLeave_nil _).mono ?_
    rintro e w' ⟨rfl, rfl⟩
    go_wp2_with fail
    refine (doneAdvance_ok _ g _ (h1 _ (Ext.refl _))).mono ?_
    rintro e w' ⟨rfl, rfl⟩
    go_wp2_with fail
    go_ret
    exact ⟨rfl, X0.out⟩
  · go_wp2_with fail
    refine (doneEnter_nil _).mono ?_
    rintro e w' ⟨rfl, rfl⟩
    go_wp2_with fail
    refine (doneLeave_nil _).mono ?_
    rintro e w' ⟨rfl, rfl⟩
    go_wp2_with fail
    refine (doneAdvance_ok _ g _ (h1 _ (Ext.refl _))).mono ?_
    rintro e w' ⟨rfl, rfl⟩
    go_wp2_with fail
    go_ret
    exact ⟨rfl, X0.out⟩
theorem mdone_ok (w : World) (m : Mc) (h : m.At w) :
    Calls Tryz.prog 33 #[.agg #[.pointer m.pE, .pointer m.pL, .pointer m.pA]] w fun e w' => e = .returned (.bool m.dn) ∧ Ext w w' := by
  cases m with
  | non => exact mdone_non w
  | ent g x => exact mdone_ent w g x.1 h
  | lea g d => exact mdone_lea w g d h
  | adv g x => exact mdone_adv w g x.dn h
section
variable {Q : Nat → Prop} {w0 w : World} {gm gp gl T : Nat} {dv pv : Value} {s : MSt} {F : Nat → Int} {t : Int}
set_option maxRecDepth 100000 in
set_option maxHeartbeats 2000000 in
theorem mstep_ent {x : EMs} (h : IsMem Q w w0 w gm dv pv s) (hc : Calm s) (ok : Okay F) (he : W64 x.2.2) (hF : F 21 = -1) (hb : Blk w gp 239 (ecells gl t x)) (hl : Blk w gl 223 (cellsF F)) (qp : Q gp) (ql : Q gl) (hne : gl ≠ gp) (p0 : w0.heap.size ≤ gp) :
    Calls Tryz.prog 31 #[.agg #[.pointer (some ⟨gp, 0, none⟩), .pointer none, .pointer none], .pointer (some ⟨gm, 0, none⟩)] w (StepPost Q w0 w gm gp 239 dv pv (enterS F t x s).2 (enterS F t x s).1.1 (ecells gl t (enterS F t x s).1)) := by
  have x0 := (Ext.refl w).alloc (.cells #[.pointer (some ⟨gp, 0, none⟩), .pointer none, .pointer none] 62)
  have b0 := Blk.new w 62 [.pointer (some ⟨gp, 0, none⟩), .pointer none, .pointer none]
  have HS := Lib.hid (enterStep_ok (h.ext x0).here hc ok he hF (hb.ext x0) (hl.ext x0) qp ql p0)
  have HK : Hid (∀ q, Q q → (w.alloc (.cells #[.pointer (some ⟨gp, 0, none⟩), .pointer none, .pointer none] 62)).heap[q]? = w.heap[q]?) := Lib.hid (fun q hq => x0.block q (h.lt.2 q hq))
  have c0 : (w.alloc (.cells #[.pointer (some ⟨gp, 0, none⟩), .pointer none, .pointer none] 62)).cell? ⟨w.heap.size, 0, none⟩ = some (.pointer (some ⟨gp, 0, none⟩)) := b0.cell 0
  have c1 : (w.alloc (.cells #[.pointer (some ⟨gp, 0, none⟩), .pointer none, .pointer none] 62)).cell? ⟨w.heap.size, 1, none⟩ = some (.pointer none) := b0.cell 1
  have c2 : (w.alloc (.cells #[.pointer (some ⟨gp, 0, none⟩), .pointer none, .pointer none] 62)).cell? ⟨w.heap.size, 2, none⟩ = some (.pointer none) := b0.cell 2
  clear h hc ok hb hl x0 b0
  go_enter Tryz.func31, Tryz.ntmps31
  go_upto_region 1 with fail
  generalize w.alloc (.cells #[.pointer (some ⟨gp, 0, none⟩), .pointer none, .pointer none] 62) = w1 at *
  go_wp2_with fail
  refine HS.out.mono ?_
  rintro e w2 ⟨rfl, m2, b2, k2⟩
  have M2 := Lib.hid m2
  have B2 := Lib.hid b2
  have K2 := Lib.hid k2
  clear m2 b2 k2 c0 c1 c2
  go_wp2_with fail
  go_ret
  exact ⟨rfl, M2.out, B2.out, fun q hq hn => (K2.out q hq hn).trans (HK.out q hq)⟩
set_option maxRecDepth 100000 in
set_option maxHeartbeats 2000000 in
theorem mstep_lea {d : Bool} (h : IsMem Q w w0 w gm dv pv s) (hc : Calm s) (ok : Okay F) (hb : Blk w gp 245 [.pointer (some ⟨gl, 0, none⟩), .int .i64 t, .bool d]) (hl : Blk w gl 223 (cellsF F)) (qp : Q gp) (ql : Q gl) (hne : gl ≠ gp) (p0 : w0.heap.size ≤ gp) :
    Calls Tryz.prog 31 #[.agg #[.pointer none, .pointer (some ⟨gp, 0, none⟩), .pointer none], .pointer (some ⟨gm, 0, none⟩)] w (StepPost Q w0 w gm gp 245 dv pv (if d = true then s else s.store t (ann F t) 0) true [.pointer (some ⟨gl, 0, none⟩), .int .i64 t, .bool true]) := by
  have x0 := (Ext.refl w).alloc (.cells #[.pointer none, .pointer (some ⟨gp, 0, none⟩), .pointer none] 62)
  have b0 := Blk.new w 62 [.pointer none, .pointer (some ⟨gp, 0, none⟩), .pointer none]
  have HS := Lib.hid (leaveStep_ok (h.ext x0).here hc ok (hb.ext x0) (hl.ext x0) qp ql p0)
  have HK : Hid (∀ q, Q q → (w.alloc (.cells #[.pointer none, .pointer (some ⟨gp, 0, none⟩), .pointer none] 62)).heap[q]? = w.heap[q]?) := Lib.hid (fun q hq => x0.block q (h.lt.2 q hq))
  have c0 : (w.alloc (.cells #[.pointer none, .pointer (some ⟨gp, 0, none⟩), .pointer none] 62)).cell? ⟨w.heap.size, 0, none⟩ = some (.pointer none) := b0.cell 0
  have c1 : (w.alloc (.cells #[.pointer none, .pointer (some ⟨gp, 0, none⟩), .pointer none] 62)).cell? ⟨w.heap.size, 1, none⟩ = some (.pointer (some ⟨gp, 0, none⟩)) := b0.cell 1
  have c2 : (w.alloc (.cells #[.pointer none, .pointer (some ⟨gp, 0, none⟩), .pointer none] 62)).cell? ⟨w.heap.size, 2, none⟩ = some (.pointer none) := b0.cell 2
  clear h hc ok hb hl x0 b0
  generalize (if d = true then s else s.store t (ann F t) 0) = s2 at *
  go_enter Tryz.func31, Tryz.ntmps31
  go_upto_region 1 with fail
  generalize w.alloc (.cells #[.pointer none, .pointer (some ⟨gp, 0, none⟩), .pointer none] 62) = w1 at *
  go_wp2_with fail
  refine HS.out.mono ?_
  rintro e w2 ⟨rfl, m2, b2, k2⟩
  have M2 := Lib.hid m2
  have B2 := Lib.hid b2
  have K2 := Lib.hid k2
  clear m2 b2 k2 c0 c1 c2
  go_wp2_with fail
  go_ret
  exact ⟨rfl, M2.out, B2.out, fun q hq hn => (K2.out q hq hn).trans (HK.out q hq)⟩
set_option maxRecDepth 100000 in
set_option maxHeartbeats 2000000 in
theorem mstep_adv {x : AMs} (h : IsMem Q w w0 w gm dv pv s) (hc : Calm s) (ok : Okay F) (hx : x.Wf T) (hT : T ≤ 100) (hF : F 21 = -1) (hF0 : F 0 = (T : Int)) (hb : Blk w gp 180 (x.cells gl t)) (hl : Blk w gl 223 (cellsF F)) (qp : Q gp) (ql : Q gl) (hne : gl ≠ gp) (p0 : w0.heap.size ≤ gp) :
    Calls Tryz.prog 31 #[.agg #[.pointer none, .pointer none, .pointer (some ⟨gp, 0, none⟩)], .pointer (some ⟨gm, 0, none⟩)] w (StepPost Q w0 w gm gp 180 dv pv (advS F T t x s).2 (advS F T t x s).1.dn ((advS F T t x s).1.cells gl t)) := by
  have x0 := (Ext.refl w).alloc (.cells #[.pointer none, .pointer none, .pointer (some ⟨gp, 0, none⟩)] 62)
  have b0 := Blk.new w 62 [.pointer none, .pointer none, .pointer (some ⟨gp, 0, none⟩)]
  have HS := Lib.hid (advStep_ok (h.ext x0).here hc ok hx (by omega) hF hF0 (hb.ext x0) (hl.ext x0) qp ql hne p0)
  have HK : Hid (∀ q, Q q → (w.alloc (.cells #[.pointer none, .pointer none, .pointer (some ⟨gp, 0, none⟩)] 62)).heap[q]? = w.heap[q]?) := Lib.hid (fun q hq => x0.block q (h.lt.2 q hq))
  have c0 : (w.alloc (.cells #[.pointer none, .pointer none, .pointer (some ⟨gp, 0, none⟩)] 62)).cell? ⟨w.heap.size, 0, none⟩ = some (.pointer none) := b0.cell 0
  have c1 : (w.alloc (.cells #[.pointer none, .pointer none, .pointer (some ⟨gp, 0, none⟩)] 62)).cell? ⟨w.heap.size, 1, none⟩ = some (.pointer none) := b0.cell 1
  have c2 : (w.alloc (.cells #[.pointer none, .pointer none, .pointer (some ⟨gp, 0, none⟩)] 62)).cell? ⟨w.heap.size, 2, none⟩ = some (.pointer (some ⟨gp, 0, none⟩)) := b0.cell 2
  clear h hc ok hb hl x0 b0
  go_enter Tryz.func31, Tryz.ntmps31
  go_upto_region 1 with fail
  generalize w.alloc (.cells #[.pointer none, .pointer none, .pointer (some ⟨gp, 0, none⟩)] 62) = w1 at *
  go_wp2_with fail
  refine HS.out.mono ?_
  rintro e w2 ⟨rfl, m2, b2, k2⟩
  have M2 := Lib.hid m2
  have B2 := Lib.hid b2
  have K2 := Lib.hid k2
  clear m2 b2 k2 c0 c1 c2
  go_wp2_with fail
  go_ret
  exact ⟨rfl, M2.out, B2.out, fun q hq hn => (K2.out q hq hn).trans (HK.out q hq)⟩
theorem Mc.own_step {m : Mc} {p : Nat × TypeId × List Value} (hm : m.own gl t = some p) (s : MSt) : ∃ cs', (m.S F T t s).1.own gl t = some (p.1, p.2.1, cs') := by
  cases m with
  | non => cases hm
  | ent g x => injection hm with hm; subst hm; exact ⟨_, rfl⟩
  | lea g d => injection hm with hm; subst hm; exact ⟨_, rfl⟩
  | adv g x => injection hm with hm; subst hm; exact ⟨_, rfl⟩
theorem mstep_ok {m : Mc} {p : Nat × TypeId × List Value} (hm : m.own gl t = some p) {cs' : List Value} (hm' : (m.S F T t s).1.own gl t = some (p.1, p.2.1, cs')) (h : IsMem Q w w0 w gm dv pv s) (hc : Calm s) (ok : Okay F) (he : ∀ g x, m = .ent g x → W64 x.2.2) (hx : ∀ g x, m = .adv g x → x.Wf T) (hT : T ≤ 100) (hF : F 21 = -1) (hF0 : F 0 = (T : Int)) (hb : Blk w p.1 p.2.1 p.2.2) (hl : Blk w gl 223 (cellsF F)) (qp : Q p.1) (ql : Q gl) (hne : gl ≠ p.1) (p0 : w0.heap.size ≤ p.1) :
    Calls Tryz.prog 31 #[.agg #[.pointer m.pE, .pointer m.pL, .pointer m.pA], .pointer (some ⟨gm, 0, none⟩)] w (StepPost Q w0 w gm p.1 p.2.1 dv pv (m.S F T t s).2 (m.S F T t s).1.dn cs') := by
  cases m with
  | non => cases hm
  | ent g x =>
    injection hm with hm
    subst hm
    have e : cs' = ecells gl t (enterS F t x s).1 := by injection hm' with hm'; injection hm' with _ hm'; injection hm' with _ hm'; exact hm'.symm
    subst e
    exact mstep_ent h hc ok (he _ _ rfl) hF hb hl qp ql hne p0
  | lea g d =>
    injection hm with hm
    subst hm
    have e : cs' = [.pointer (some ⟨gl, 0, none⟩), .int .i64 t, .bool true] := by injection hm' with hm'; injection hm' with _ hm'; injection hm' with _ hm'; exact hm'.symm
    subst e
    exact mstep_lea h hc ok hb hl qp ql hne p0
  | adv g x =>
    injection hm with hm
    subst hm
    have e : cs' = (advS F T t x s).1.cells gl t := by injection hm' with hm'; injection hm' with _ hm'; injection hm' with _ hm'; exact hm'.symm
    subst e
    exact mstep_adv h hc ok (hx _ _ rfl) hT hF hF0 hb hl qp ql hne p0
end
end Go.Proofs.YtfbobdkfibhcnaaGreat

/- One thread's row and machine among several. Conditions: those that each theorem names. -/
namespace Go.Proofs.YtfbobdkfibhcnaaGreat
open Go.ChangeShapes Go.WideShapes Go.ChangeAt Go.RowKit
set_option linter.unusedVariables false
theorem set_self {α : Type} (l : List α) (i : Nat) (a : α) (h : l[i]? = some a) : l.set i a = l := by
  refine List.ext_getElem? (fun j => ?_)
  have hlt := (List.getElem?_eq_some_iff.1 h).1
  rw [set_get _ _ _ _ hlt]
  by_cases e : j = i
  · rw [if_pos e, e, h]
  · rw [if_neg e]
theorem mapR_set {α : Type} (f : Nat → α) (T k : Nat) (v : α) (hk : k < T) : ((List.range T).map f).set k v = (List.range T).map (fun i => if i = k then v else f i) := by
  refine List.ext_getElem? (fun j => ?_)
  rw [set_get _ _ _ _ (by simpa using hk), List.getElem?_map, List.getElem?_map]
  by_cases e : j = k
  · subst e
    rw [if_pos rfl, List.getElem?_range hk]
    simp
  · rw [if_neg e]
    by_cases hj : j < T
    · rw [List.getElem?_range hj]
      simp [e]
    · rw [List.getElem?_eq_none (by simp; omega)]
      rfl
theorem mapR_eq {α : Type} (f g : Nat → α) (T : Nat) (h : ∀ i, i < T → f i = g i) : (List.range T).map f = (List.range T).map g := List.map_congr_left (fun i hi => h i (List.mem_range.1 hi))
theorem mapIdx_set9 {α β : Type} (f : Nat → α → β) (l : List α) (i : Nat) (a : α) (hi : i < l.length) : (l.set i a).mapIdx f = (l.mapIdx f).set i (f i a) := by
  refine List.ext_getElem? (fun j => ?_)
  rw [List.getElem?_mapIdx, set_get _ _ _ _ hi, set_get _ _ _ _ (by simpa using hi), List.getElem?_mapIdx]
  by_cases e : j = i
  · subst e
    rw [if_pos rfl, if_pos rfl]
    rfl
  · rw [if_neg e, if_neg e]
structure HAt (C : TypeId) (sz : Nat) (w1 w : World) (gm : Nat) (dv pv : Value) (gl gh : Nat) (F : Nat → Int) (rows : List (List Value)) (os : List Owned) (tt : Nat) (r : List Value) (o : Owned) (s : MSt) : Prop where
  m : ManyAt C w1 w gm dv pv gl gh F (rows.set tt r) (os.set tt o) s
  hl : ∀ x ∈ rows, x.length = sz
  hr : r.length = sz
  h1 : tt < rows.length
  h2 : tt < os.length
section
variable {C : TypeId} {sz : Nat} {w1 w w' : World} {gm gl gh : Nat} {dv pv : Value} {F : Nat → Int} {rows : List (List Value)} {os : List Owned} {tt : Nat} {r : List Value} {o : Owned} {s s' : MSt}
theorem HAt.of (m : ManyAt C w1 w gm dv pv gl gh F rows os s) (hl : ∀ x ∈ rows, x.length = sz) (e1 : rows[tt]? = some r) (e2 : os[tt]? = some o) : HAt C sz w1 w gm dv pv gl gh F rows os tt r o s :=
  ⟨by rw [set_self _ _ _ e1, set_self _ _ _ e2]; exact m, hl, hl r (List.mem_of_getElem? e1), (List.getElem?_eq_some_iff.1 e1).1, (List.getElem?_eq_some_iff.1 e2).1⟩
theorem HAt.all (h : HAt C sz w1 w gm dv pv gl gh F rows os tt r o s) : ∀ x ∈ rows.set tt r, x.length = sz := fun x hx => by
  obtain ⟨i, hi⟩ := List.mem_iff_getElem?.1 hx
  rw [set_get _ _ _ _ h.h1] at hi
  by_cases e : i = tt
  · rw [if_pos e] at hi
    injection hi with hi
    rw [← hi]
    exact h.hr
  · rw [if_neg e] at hi
    exact h.hl x (List.mem_of_getElem? hi)
theorem HAt.row (h : HAt C sz w1 w gm dv pv gl gh F rows os tt r o s) : (rows.set tt r)[tt]? = some r := by rw [set_get _ _ _ _ h.h1, if_pos rfl]
theorem HAt.own (h : HAt C sz w1 w gm dv pv gl gh F rows os tt r o s) : (os.set tt o)[tt]? = some o := by rw [set_get _ _ _ _ h.h2, if_pos rfl]
theorem HAt.ext (h : HAt C sz w1 w gm dv pv gl gh F rows os tt r o s) (x : Ext w w') : HAt C sz w1 w' gm dv pv gl gh F rows os tt r o s := ⟨h.m.ext x, h.hl, h.hr, h.h1, h.h2⟩
theorem HAt.cell (h : HAt C sz w1 w gm dv pv gl gh F rows os tt r o s) {f : Nat} (hf : f < sz) : w.cell? ⟨gh, tt * sz + f, none⟩ = r[f]? := by
  rw [h.m.h.cell, flat_get _ _ _ h.all hf, h.row]
  rfl
theorem HAt.frozen (h : HAt C sz w1 w gm dv pv gl gh F rows os tt r o s) (f : Nat) : w.frozen? ⟨gh, tt * sz + f, none⟩ = false := h.m.h.frozen _
theorem HAt.put (h : HAt C sz w1 w gm dv pv gl gh F rows os tt r o s) {f : Nat} (hf : f < sz) (v : Value) : HAt C sz w1 (w.setCell ⟨gh, tt * sz + f, none⟩ v) gm dv pv gl gh F rows os tt (r.set f v) o s :=
  ⟨by have := h.m.put h.all hf h.row v; rw [List.set_set] at this; exact this, h.hl, by rw [List.length_set]; exact h.hr, h.h1, h.h2⟩
theorem HAt.take (h : HAt C sz w1 w gm dv pv gl gh F rows os tt r o s) (x : Ext w w') {q : Nat × TypeId × List Value} (hg : w.heap.size ≤ q.1) (hb : Blk w' q.1 q.2.1 q.2.2) : HAt C sz w1 w' gm dv pv gl gh F rows os tt r (some q) s :=
  ⟨by have := h.m.take x (i := tt) (q := q) (by rw [List.length_set]; exact h.h2) hg hb; rw [List.set_set] at this; exact this, h.hl, h.hr, h.h1, h.h2⟩
theorem HAt.blk {q : Nat × TypeId × List Value} (h : HAt C sz w1 w gm dv pv gl gh F rows os tt r (some q) s) : Blk w q.1 q.2.1 q.2.2 := (h.m.a tt q h.own).1
end
/-- What each thread of FreeMany has: its row, and its machine. -/
def Hd.cells (h : Hd) : List Value := [.pointer (if h.pop = true then some ⟨h.g, 0, none⟩ else none), .pointer (if h.pop = true then none else some ⟨h.g, 0, none⟩), .int .i64 (if h.pop = true then -1 else h.x.y)]
def Hd.own (gl : Nat) (i : Nat) (h : Hd) : Owned := some (h.g, if h.pop = true then 150 else 171, h.x.cells gl i)
theorem hadC_count {k : Int} (hk : 0 ≤ k) : ∀ hs : List Hd, (hs.map fun h => if h.pop = true then (-1 : Int) else h.x.y).count k = hadC k hs
  | [] => rfl
  | h :: hs => by
    rw [List.map_cons, List.count_cons, hadC_count hk hs]
    show _ = had1 k h + hadC k hs
    unfold had1
    by_cases hp : h.pop = true
    · rw [if_pos hp, if_pos hp, if_neg (by simp; omega)]
      simp
    · rw [if_neg hp, if_neg hp]
      by_cases e : h.x.y = k
      · rw [if_pos (by simpa using e), if_pos e]
        omega
      · rw [if_neg (by simpa using e), if_neg e]
        omega
end Go.Proofs.YtfbobdkfibhcnaaGreat

/- Several threads of EpochHolds: rows, what each has, how it begins. Conditions: those that each theorem names. -/
namespace Go.Proofs.YtfbobdkfibhcnaaGreat
open Go.ChangeShapes Go.WideShapes Go.ChangeAt Go.RowKit
set_option linter.unusedVariables false
theorem Mc.S_ptrs (m : Mc) (F : Nat → Int) (T : Nat) (t : Int) (s : MSt) : (m.S F T t s).1.pE = m.pE ∧ (m.S F T t s).1.pL = m.pL ∧ (m.S F T t s).1.pA = m.pA := by
  cases m <;> exact ⟨rfl, rfl, rfl⟩
theorem Mc.S_calm {m : Mc} {F : Nat → Int} {T : Nat} {t n : Int} {s : MSt} (hU : W64 (peekV s (-1))) (hx : ∀ g x, m = .adv g x → x.Wf T) (hc : CalmN n s) : CalmN (n + 1) (m.S F T t s).2 := by
  cases m with
  | non => exact hc.mono (by omega)
  | ent g x =>
    show CalmN (n + 1) (enterS F t x s).2
    unfold enterS
    split
    · exact hc.mono (by omega)
    split
    · exact hc.load _ _
    · exact hc.store _ _ _
  | lea g d =>
    show CalmN (n + 1) (if d = true then s else s.store t (ann F t) 0)
    split
    · exact hc.mono (by omega)
    · exact hc.store _ _ _
  | adv g x => exact (advS_wf hU (hx g x rfl) hc).2
theorem Mc.own_of {m : Mc} (h : m.dn = false) (gl : Nat) (t : Int) : ∃ p, m.own gl t = some p := by
  cases m with
  | non => cases h
  | ent g x => exact ⟨_, rfl⟩
  | lea g d => exact ⟨_, rfl⟩
  | adv g x => exact ⟨_, rfl⟩
theorem Mc.at_of {m : Mc} {w : World} {gl : Nat} {t : Int} (h : ∀ p, m.own gl t = some p → Blk w p.1 p.2.1 p.2.2) : m.At w := by
  cases m with
  | non => trivial
  | ent g x => exact (h _ rfl).cell 2
  | lea g d => exact (h _ rfl).cell 2
  | adv g x => exact (h _ rfl).cell 2
theorem rowsE_len (hs : List EH) : ∀ r ∈ hs.map EH.cells, r.length = 5 := fun r hr => by
  obtain ⟨h, _, e⟩ := List.mem_map.1 hr
  rw [← e]
  rfl
def ownE (gl : Nat) (i : Nat) (h : EH) : Owned := h.m.own gl i
theorem setE {hs : List EH} {gl tt : Nat} {h' : EH} {r : List Value} {o : Owned} (hlt : tt < hs.length) (hr : r = h'.cells) (ho : o = h'.m.own gl tt) : (hs.map EH.cells).set tt r = (hs.set tt h').map EH.cells ∧ (hs.mapIdx (ownE gl)).set tt o = (hs.set tt h').mapIdx (ownE gl) := by
  refine ⟨by rw [List.map_set, hr], ?_⟩
  rw [mapIdx_set9 _ _ _ _ hlt, ho]
  rfl
theorem rowsE_at {hs : List EH} {i f : Nat} {h : EH} (e : hs[i]? = some h) (hf : f < 5) : (hs.map EH.cells).flatten[i * 5 + f]? = h.cells[f]? := by
  rw [flat_get _ _ _ (rowsE_len hs) hf, List.getElem?_map, e]
  rfl
theorem inS_inB {F : Nat → Int} {T i : Nat} {s : MSt} (h : i < T) : (inS F T s i).2 = inB F s i := by
  unfold inS inB
  rw [if_pos ⟨by omega, by omega⟩]
  by_cases e : peekV s (ann F i) = 0
  · rw [if_pos e]
    simp [e]
  · rw [if_neg e]
    simp [e]
def h5 : EH := ⟨.non, false, 0⟩
def z5 : List Value := [.pointer none, .pointer none, .pointer none, .bool false, .int .u64 0]
theorem made_holds (n : Nat) : madeCells #[.pointer none, .pointer none, .pointer none, .bool false, .int .u64 0] (n * 5) = (((List.replicate n h5).map EH.cells).flatten).toArray := by
  have hlen := rowsE_len (List.replicate n h5)
  have hl : (((List.replicate n h5).map EH.cells).flatten).length = n * 5 := by
    rw [List.map_replicate, List.length_flatten, List.map_replicate, List.sum_replicate_nat]
    rfl
  apply Array.ext
  · simp [madeCells]
    rfl
  · intro i h1 h2
    have hi : i < n * 5 := by simpa [madeCells] using h1
    have hd : i / 5 * 5 + i % 5 = i := by omega
    have hr : i % 5 < 5 := Nat.mod_lt _ (by decide)
    have hq : i / 5 < n := by omega
    have key := rowsE_at (hs := List.replicate n h5) (i := i / 5) (f := i % 5) (h := h5) (by rw [List.getElem?_replicate, if_pos hq]) hr
    rw [hd] at key
    have e2 : (((List.replicate n h5).map EH.cells).flatten)[i]? = some ((((List.replicate n h5).map EH.cells).flatten)[i]'(by rw [hl]; exact hi)) := List.getElem?_eq_getElem _
    rw [e2] at key
    have key2 : some ((((List.replicate n h5).map EH.cells).flatten)[i]'(by rw [hl]; exact hi)) = z5[i % 5]? := key
    have e3 : (madeCells #[.pointer none, .pointer none, .pointer none, .bool false, .int .u64 0] (n * 5))[i] = #[Value.pointer none, .pointer none, .pointer none, .bool false, .int .u64 0][i % 5]! := by simp [madeCells]
    rw [e3, List.getElem_toArray]
    have hc : i % 5 = 0 ∨ i % 5 = 1 ∨ i % 5 = 2 ∨ i % 5 = 3 ∨ i % 5 = 4 := by omega
    rcases hc with e | e | e | e | e <;> rw [e] at key2 ⊢ <;> exact (Option.some.inj key2).symm
theorem EI.start (t s l b : Nat) : EI t s l b 0 (List.replicate t h5) (groundSt t s l b []) := by
  have at5 : ∀ (i : Nat) (h : EH), (List.replicate t h5)[i]? = some h → h = h5 := fun i h e => by
    rw [List.getElem?_replicate] at e
    split at e
    · injection e with e
      exact e.symm
    · cases e
  have e0 : groundSt t s l b [] = startSt t s l b := rfl
  rw [e0]
  refine ⟨MOk.start t s l b, by simp, by rw [start_peek]; exact ⟨Int.le_refl _, Int.le_refl _⟩, fun i h e => ?_, fun i h g x e em => ?_, fun i h g x e em => ?_⟩
  · rw [at5 i h e]
    exact ⟨⟨fun _ => start_peek _ _ _ _ _, fun e => by cases e⟩, ⟨Int.le_refl 0, by show (0 : Int) < _; decide⟩⟩
  · rw [at5 i h e] at em
    cases em
  · rw [at5 i h e] at em
    cases em
theorem ownE_none (gl t : Nat) (i : Nat) (p : Nat × TypeId × List Value) : ((List.replicate t h5).mapIdx (ownE gl))[i]? ≠ some (some p) := by
  rw [List.getElem?_mapIdx, List.getElem?_replicate]
  split
  · intro e
    injection e with e
    cases e
  · intro e
    cases e
end Go.Proofs.YtfbobdkfibhcnaaGreat
