/- Arena: a Take's state, and a step of it, whatever its part. Conditions: those that each theorem names. -/
import Derived.Test.YtbicloceaddinaaGreatKArC
import Derived.Test.YtbicloceaddinaaGreatKRetE
import Derived.Test.YtbicloceaddinaaGreatKLkA
import Derived.Test.YtbicloceaddinaaGreatKFM
namespace Go.Proofs.YtbicloceaddinaaGreat
open Go.ChangeShapes Go.WideShapes Go.ChangeAt Go.RowKit
set_option linter.unusedVariables false
set_option maxRecDepth 100000 in
/-- A step of a Take is its part's, whatever that leaves. -/
theorem takeGo_popPart {w : World} {gm gt : Nat} {P : Ending → World → Prop} (c2 : w.cell? ⟨gt, 2, none⟩ = some (tkF 91 gt)) (hp : Calls Tryz.prog 91 #[.pointer (some ⟨gt, 0, none⟩), .pointer (some ⟨gm, 0, none⟩)] w P) (r : Bool) (hP : ∀ e w', P e w' → (∃ u, e = .returned u) ∧ (w'.cell? ⟨gt, 2, none⟩ = some .nilFunc ∧ r = true ∨ ∃ n', w'.cell? ⟨gt, 2, none⟩ = some (tkF n' gt) ∧ r = false)) :
    Calls Tryz.prog 19 #[.pointer (some ⟨gt, 0, none⟩), .pointer (some ⟨gm, 0, none⟩)] w fun e w' => e = .returned (.bool r) ∧ ∃ e', P e' w' := by
  have HD := Lib.hid (takeDone_no w gt _ c2)
  have HP := Lib.hid hp
  have HPP := Lib.hid hP
  unfold tkF at c2
  clear hp hP
  go_enter Tryz.func19, Tryz.ntmps19
  go_wp2_with fail
  refine HD.out.mono ?_
  rintro e w' ⟨rfl, rfl⟩
  go_wp2_with fail
  refine HP.out.mono ?_
  rintro e w1 hp1
  have PP : Hid (∃ e', P e' w1) := Lib.hid ⟨e, hp1⟩
  obtain ⟨⟨u, rfl⟩, hd⟩ := HPP.out e w1 hp1
  have HD1 : Hid (Calls Tryz.prog 21 #[.pointer (some ⟨gt, 0, none⟩)] w1 fun e w' => e = .returned (.bool r) ∧ w1 = w') := Lib.hid (by
    rcases hd with ⟨h, rfl⟩ | ⟨n', h, rfl⟩
    · exact takeDone_yes w1 gt h
    · exact takeDone_no w1 gt n' h)
  clear hp1 hd c2
  go_wp2_with fail
  refine HD1.out.mono ?_
  rintro e w' ⟨rfl, rfl⟩
  go_wp2_with fail
  go_ret
  exact ⟨rfl, PP.out⟩
set_option maxRecDepth 100000 in
/-- A step of a Take is its part's, whatever that leaves. -/
theorem takeGo_advancePart {w : World} {gm gt : Nat} {P : Ending → World → Prop} (c2 : w.cell? ⟨gt, 2, none⟩ = some (tkF 160 gt)) (hp : Calls Tryz.prog 160 #[.pointer (some ⟨gt, 0, none⟩), .pointer (some ⟨gm, 0, none⟩)] w P) (r : Bool) (hP : ∀ e w', P e w' → (∃ u, e = .returned u) ∧ (w'.cell? ⟨gt, 2, none⟩ = some .nilFunc ∧ r = true ∨ ∃ n', w'.cell? ⟨gt, 2, none⟩ = some (tkF n' gt) ∧ r = false)) :
    Calls Tryz.prog 19 #[.pointer (some ⟨gt, 0, none⟩), .pointer (some ⟨gm, 0, none⟩)] w fun e w' => e = .returned (.bool r) ∧ ∃ e', P e' w' := by
  have HD := Lib.hid (takeDone_no w gt _ c2)
  have HP := Lib.hid hp
  have HPP := Lib.hid hP
  unfold tkF at c2
  clear hp hP
  go_enter Tryz.func19, Tryz.ntmps19
  go_wp2_with fail
  refine HD.out.mono ?_
  rintro e w' ⟨rfl, rfl⟩
  go_wp2_with fail
  refine HP.out.mono ?_
  rintro e w1 hp1
  have PP : Hid (∃ e', P e' w1) := Lib.hid ⟨e, hp1⟩
  obtain ⟨⟨u, rfl⟩, hd⟩ := HPP.out e w1 hp1
  have HD1 : Hid (Calls Tryz.prog 21 #[.pointer (some ⟨gt, 0, none⟩)] w1 fun e w' => e = .returned (.bool r) ∧ w1 = w') := Lib.hid (by
    rcases hd with ⟨h, rfl⟩ | ⟨n', h, rfl⟩
    · exact takeDone_yes w1 gt h
    · exact takeDone_no w1 gt n' h)
  clear hp1 hd c2
  go_wp2_with fail
  refine HD1.out.mono ?_
  rintro e w' ⟨rfl, rfl⟩
  go_wp2_with fail
  go_ret
  exact ⟨rfl, PP.out⟩
set_option maxRecDepth 100000 in
/-- A step of a Take is its part's, whatever that leaves. -/
theorem takeGo_reclaimPart {w : World} {gm gt : Nat} {P : Ending → World → Prop} (c2 : w.cell? ⟨gt, 2, none⟩ = some (tkF 205 gt)) (hp : Calls Tryz.prog 205 #[.pointer (some ⟨gt, 0, none⟩), .pointer (some ⟨gm, 0, none⟩)] w P) (r : Bool) (hP : ∀ e w', P e w' → (∃ u, e = .returned u) ∧ (w'.cell? ⟨gt, 2, none⟩ = some .nilFunc ∧ r = true ∨ ∃ n', w'.cell? ⟨gt, 2, none⟩ = some (tkF n' gt) ∧ r = false)) :
    Calls Tryz.prog 19 #[.pointer (some ⟨gt, 0, none⟩), .pointer (some ⟨gm, 0, none⟩)] w fun e w' => e = .returned (.bool r) ∧ ∃ e', P e' w' := by
  have HD := Lib.hid (takeDone_no w gt _ c2)
  have HP := Lib.hid hp
  have HPP := Lib.hid hP
  unfold tkF at c2
  clear hp hP
  go_enter Tryz.func19, Tryz.ntmps19
  go_wp2_with fail
  refine HD.out.mono ?_
  rintro e w' ⟨rfl, rfl⟩
  go_wp2_with fail
  refine HP.out.mono ?_
  rintro e w1 hp1
  have PP : Hid (∃ e', P e' w1) := Lib.hid ⟨e, hp1⟩
  obtain ⟨⟨u, rfl⟩, hd⟩ := HPP.out e w1 hp1
  have HD1 : Hid (Calls Tryz.prog 21 #[.pointer (some ⟨gt, 0, none⟩)] w1 fun e w' => e = .returned (.bool r) ∧ w1 = w') := Lib.hid (by
    rcases hd with ⟨h, rfl⟩ | ⟨n', h, rfl⟩
    · exact takeDone_yes w1 gt h
    · exact takeDone_no w1 gt n' h)
  clear hp1 hd c2
  go_wp2_with fail
  refine HD1.out.mono ?_
  rintro e w' ⟨rfl, rfl⟩
  go_wp2_with fail
  go_ret
  exact ⟨rfl, PP.out⟩
/-- A Take: its part (0: done; 1: the first Pop; 2: the Advance; 3: the Reclaim; 4: the second Pop; 5 to 9: the others), and what it has. -/
structure TkM where
  part : Nat
  gu : Nat
  pop : PMs
  av : Option Addr
  adv : Option (Nat × AMs)
  rc : Option (Nat × RcM)
  dry : Bool
  empty : Int
  gen : Int
def nxOf (k gt : Nat) : Value :=
  match k with
  | 0 => .nilFunc
  | 1 => tkF 91 gt
  | 2 => tkF 160 gt
  | 3 => tkF 205 gt
  | 4 => tkF 91 gt
  | 5 => tkF 158 gt
  | 6 => tkF 203 gt
  | 7 => tkF 224 gt
  | 8 => tkF 240 gt
  | _ => tkF 253 gt
def TkM.rcp (x : TkM) : Option Addr := x.rc.map fun q => ⟨q.1, 0, none⟩
def TkM.cells (x : TkM) (gl gt : Nat) (t : Int) : List Value := tkCells gl x.gu gt t (nxOf x.part gt) (.pointer x.av) (.pointer x.rcp) x.dry x.empty x.gen
def TkM.ownB (x : TkM) (b : Nat) : Prop := b = x.gu ∨ (∃ q, x.adv = some q ∧ b = q.1) ∨ ∃ q, x.rc = some q ∧ (b = q.1 ∨ q.2.ownB b)
def rc0 : RcM := ⟨false, 0, 0, 0, 0, none, 0⟩
def am0 : AMs := ⟨false, false, 0, 0, false⟩
def pm0 : PMs := ⟨0, 0, 0, false⟩
def tk1 (x : TkM) (p : PMs × MSt) (n1 n2 : Nat) : TkM × MSt :=
  (if p.1.dn = false then ⟨1, x.gu, p.1, x.av, x.adv, x.rc, x.dry, x.empty, x.gen⟩ else if toN p.1.top = -1 then ⟨2, x.gu, p.1, some ⟨n1, 0, none⟩, some (n1, am0), some (n2, rc0), x.dry, x.empty, x.gen⟩ else ⟨5, x.gu, p.1, x.av, x.adv, x.rc, x.dry, x.empty, x.gen⟩, p.2)
def tk2 (x : TkM) (ga : Nat) (p : AMs × MSt) : TkM × MSt :=
  (if p.1.dn = false then ⟨2, x.gu, x.pop, x.av, some (ga, p.1), x.rc, x.dry, x.empty, x.gen⟩ else ⟨3, x.gu, x.pop, x.av, none, x.rc, x.dry, x.empty, x.gen⟩, p.2)
def tk3 (x : TkM) (gr : Nat) (p : RcM × MSt) (n2 : Nat) : TkM × MSt :=
  (if p.1.dn = false then ⟨3, x.gu, x.pop, x.av, x.adv, some (gr, p.1), x.dry, x.empty, x.gen⟩ else ⟨4, n2, pm0, x.av, x.adv, some (gr, p.1), x.dry, x.empty, x.gen⟩, p.2)
def tk4 (x : TkM) (p : PMs × MSt) : TkM × MSt :=
  (if p.1.dn = false then ⟨4, x.gu, p.1, x.av, x.adv, x.rc, x.dry, x.empty, x.gen⟩ else if toN p.1.top = -1 then ⟨0, x.gu, p.1, x.av, x.adv, x.rc, true, p.2.clock, x.gen⟩ else ⟨5, x.gu, p.1, x.av, x.adv, x.rc, x.dry, x.empty, x.gen⟩, p.2)
def TkM.to (x : TkM) (k : Nat) (gen : Int) : TkM := ⟨k, x.gu, x.pop, x.av, x.adv, x.rc, x.dry, x.empty, gen⟩
/-- What a Take's step leaves; n1, n2: the blocks that it makes, if it makes some. -/
def tkS (F : Nat → Int) (T : Nat) (t : Int) (x : TkM) (s : MSt) (n1 n2 : Nat) : TkM × MSt :=
  match x.part with
  | 0 => (x, s)
  | 1 => tk1 x (popS F t x.pop s) n1 n2
  | 2 => match x.adv with | none => (x, s) | some q => tk2 x q.1 (advS F T t q.2 s)
  | 3 => match x.rc with | none => (x, s) | some q => tk3 x q.1 (rcS F t q.2 s n1) n2
  | 4 => tk4 x (popS F t x.pop s)
  | 5 => (x.to 6 x.gen, s.store t (intN F t) (toN x.pop.top + 1))
  | 6 => (x.to 7 x.gen, s.flush t (intN F t))
  | 7 => (x.to 8 x.gen, s.fence t)
  | 8 => (x.to 9 (peekV s (genN F (toN x.pop.top))), s.load t (genN F (toN x.pop.top)))
  | _ => (x.to 0 x.gen, s.store t (genN F (toN x.pop.top)) (IntKind.u64.wrap (x.gen + 1)))
structure TkM.Wf (T L : Nat) (x : TkM) : Prop where
  part : x.part ≤ 9
  pop : x.pop.Wf
  p1 : x.part = 1 → x.rc = none ∧ x.adv = none
  p14 : x.part = 1 ∨ x.part = 4 → x.pop.dn = false
  p23 : x.part = 2 ∨ x.part = 3 → x.pop.dn = true ∧ toN x.pop.top = -1
  p2 : x.part = 2 → ∃ ga a gr, x.adv = some (ga, a) ∧ x.av = some ⟨ga, 0, none⟩ ∧ a.Wf T ∧ a.dn = false ∧ x.rc = some (gr, rc0)
  p3 : x.part = 3 → ∃ gr r, x.rc = some (gr, r) ∧ r.Wf1 L ∧ r.dn = false ∧ x.adv = none
  p4 : x.part = 0 ∨ 4 ≤ x.part → x.adv = none
  p4r : x.part = 4 → ∃ gr r, x.rc = some (gr, r)
  p5 : 5 ≤ x.part → x.pop.dn = true ∧ 0 ≤ toN x.pop.top
  p0 : x.part = 0 → x.pop.dn = true
  rd : x.part = 0 ∨ 4 ≤ x.part → ∀ q, x.rc = some q → q.2.dn = true ∧ q.2.push = none
/-- A Take, and all that it has of its own. -/
structure TkAt (Q : Nat → Prop) (w0 w : World) (gm gt gl : Nat) (dv pv : Value) (t : Int) (x : TkM) (s : MSt) : Prop where
  mem : IsMem (fun b => Q b ∨ x.ownB b) w w0 w gm dv pv s
  blk : Blk w gt 149 (x.cells gl gt t)
  pop : (¬ Q x.gu ∧ w0.heap.size ≤ x.gu) ∧ Blk w x.gu 217 (x.pop.cells gl t)
  adv : ∀ q, x.adv = some q → (¬ Q q.1 ∧ w0.heap.size ≤ q.1) ∧ Blk w q.1 250 (q.2.cells gl t)
  rc : ∀ q, x.rc = some q → (¬ Q q.1 ∧ w0.heap.size ≤ q.1) ∧ Blk w q.1 206 (q.2.cells gl t)
  push : ∀ q p, x.rc = some q → q.2.push = some p → (¬ Q p.1 ∧ w0.heap.size ≤ p.1) ∧ Blk w p.1 259 (p.2.cells gl t)
section
variable {Q : Nat → Prop} {w0 w : World} {gm gt gl : Nat} {dv pv : Value} {s : MSt} {F : Nat → Int} {t : Int} {x : TkM}
/-- Where the blocks that it has stay the same. -/
theorem TkAt.stay (h : TkAt Q w0 w gm gt gl dv pv t x s) {w' : World} {s' : MSt} {x' : TkM} (e1 : x'.gu = x.gu) (e2 : x'.adv = x.adv) (e3 : x'.rc = x.rc) (m : IsMem (fun b => Q b ∨ x.ownB b) w' w0 w' gm dv pv s') (hb : Blk w' gt 149 (x'.cells gl gt t)) (hp : Blk w' x.gu 217 (x'.pop.cells gl t)) (k : ∀ b, (Q b ∨ x.ownB b) → b ≠ gt → b ≠ x.gu → w'.heap[b]? = w.heap[b]?) : TkAt Q w0 w' gm gt gl dv pv t x' s' := by
  have nug : x.gu ≠ gt := h.pop.2.ne h.blk (by decide)
  refine ⟨m.reQ (fun b hb => hb.imp id (fun ho => ?_)), hb, by rw [e1]; exact ⟨h.pop.1, hp⟩, fun q e => ?_, fun q e => ?_, fun q p e ep => ?_⟩
  · unfold TkM.ownB at ho ⊢
    rw [e1, e2, e3] at ho
    exact ho
  · rw [e2] at e
    obtain ⟨a1, a2⟩ := h.adv q e
    exact ⟨a1, (k q.1 (Or.inr (Or.inr (Or.inl ⟨q, e, rfl⟩))) (a2.ne h.blk (by decide)) (a2.ne h.pop.2 (by decide))).trans a2⟩
  · rw [e3] at e
    obtain ⟨a1, a2⟩ := h.rc q e
    exact ⟨a1, (k q.1 (Or.inr (Or.inr (Or.inr ⟨q, e, Or.inl rfl⟩))) (a2.ne h.blk (by decide)) (a2.ne h.pop.2 (by decide))).trans a2⟩
  · rw [e3] at e
    obtain ⟨a1, a2⟩ := h.push q p e ep
    exact ⟨a1, (k p.1 (Or.inr (Or.inr (Or.inr ⟨q, e, Or.inr ⟨p, ep, rfl⟩⟩))) (a2.ne h.blk (by decide)) (a2.ne h.pop.2 (by decide))).trans a2⟩
theorem TkAt.ext (h : TkAt Q w0 w gm gt gl dv pv t x s) {w' : World} (e : Ext w w') : TkAt Q w0 w' gm gt gl dv pv t x s :=
  ⟨(h.mem.ext e).here, h.blk.ext e, ⟨h.pop.1, h.pop.2.ext e⟩, fun q hq => ⟨(h.adv q hq).1, (h.adv q hq).2.ext e⟩, fun q hq => ⟨(h.rc q hq).1, (h.rc q hq).2.ext e⟩, fun q p hq hp => ⟨(h.push q p hq hp).1, (h.push q p hq hp).2.ext e⟩⟩
theorem nil_or {k gt : Nat} (hk : k ≤ 9) : (nxOf k gt = .nilFunc ∧ decide (k = 0) = true) ∨ ∃ n', nxOf k gt = tkF n' gt ∧ decide (k = 0) = false := by
  have hc : k = 0 ∨ k = 1 ∨ k = 2 ∨ k = 3 ∨ k = 4 ∨ k = 5 ∨ k = 6 ∨ k = 7 ∨ k = 8 ∨ k = 9 := by omega
  rcases hc with rfl | rfl | rfl | rfl | rfl | rfl | rfl | rfl | rfl | rfl
  · exact Or.inl ⟨rfl, rfl⟩
  all_goals exact Or.inr ⟨_, rfl, rfl⟩
/-- What a step leaves. -/
def TkPost (Q : Nat → Prop) (w0 w : World) (gm gt gl : Nat) (dv pv : Value) (t : Int) (x : TkM) (s : MSt) (F : Nat → Int) (T : Nat) (e : Ending) (w' : World) : Prop :=
  ∃ n1 n2, e = .returned (.bool (decide ((tkS F T t x s n1 n2).1.part = 0))) ∧ TkAt Q w0 w' gm gt gl dv pv t (tkS F T t x s n1 n2).1 (tkS F T t x s n1 n2).2 ∧ ∀ b, Q b → b ≠ gt → w'.heap[b]? = w.heap[b]?
set_option maxRecDepth 100000 in
theorem tkStep_1 {T L : Nat} (hp : x.part = 1) (h : TkAt Q w0 w gm gt gl dv pv t x s) (hc : Calm s) (ok : Okay F) (h22 : F 22 = -2) (hw : ∀ x', x' = (popS F t x.pop s).1 → x'.Wf) (hx : x.Wf T L) (hl : Blk w gl 173 (cellsF F)) (qt : Q gt) (ql : Q gl) (p0 : w0.heap.size ≤ gt) :
    Calls Tryz.prog 19 #[.pointer (some ⟨gt, 0, none⟩), .pointer (some ⟨gm, 0, none⟩)] w (TkPost Q w0 w gm gt gl dv pv t x s F T) := by
  have H := h
  obtain ⟨part, gu, pop, av, adv, rc, dry, empty, gen⟩ := x
  simp only at hp
  subst hp
  obtain ⟨e1, e2⟩ := hx.p1 rfl
  simp only at e1 e2
  subst e1 e2
  obtain ⟨hm, hb, ⟨⟨nqu, p0u⟩, hu⟩, ha, hr, hpu⟩ := h
  simp only at hw nqu p0u hu
  have nug : gu ≠ gt := hu.ne hb (by decide)
  have hst := popStep_ok hm hc ok hx.pop hu hl h22 (Or.inr (Or.inl rfl)) (Or.inl ql) p0u
  have et : ∀ n1 n2, tkS F T t ⟨1, gu, pop, av, none, none, dry, empty, gen⟩ s n1 n2 = tk1 ⟨1, gu, pop, av, none, none, dry, empty, gen⟩ (popS F t pop s) n1 n2 := fun _ _ => rfl
  unfold TkPost
  simp only [et]
  have hw' := hw _ rfl
  generalize popS F t pop s = p at *
  obtain ⟨y, s'⟩ := p
  simp only at hst hw'
  unfold tk1
  have c2 : w.cell? ⟨gt, 2, none⟩ = some (tkF 91 gt) := hb.cell 2
  by_cases hd : y.dn = false
  · rw [hd] at hst
    refine (takeGo_popPart c2 (popPart_no (t := t) (nx := tkF 91 gt) (av := .pointer av) (rc := .pointer none) (dry := dry) (empty := empty) (gen := gen) hb hst (Or.inl qt) nug) false ?_).mono ?_
    · rintro e w' ⟨u, _, b1, _, _⟩
      exact ⟨u, Or.inr ⟨_, b1.cell 2, rfl⟩⟩
    · rintro e w' ⟨rfl, e', _, m1, b1, u1, k1⟩
      simp only [hd, if_true]
      exact ⟨0, 0, rfl, H.stay (x' := ⟨1, gu, y, av, none, none, dry, empty, gen⟩) rfl rfl rfl m1 b1 u1 k1, fun b hb hne => k1 b (Or.inl hb) hne (fun (e : b = gu) => nqu (e ▸ hb))⟩
  · have hd' : y.dn = true := by simpa using hd
    rw [hd'] at hst
    by_cases hs : toN y.top = -1
    · refine (takeGo_popPart c2 (popPart_first (t := t) (nx := tkF 91 gt) (av := .pointer av) (dry := dry) (empty := empty) (gen := gen) hb hst (Or.inl qt) p0 nug hd' hw'.top hs) false ?_).mono ?_
      · rintro e w' ⟨u, ga, gr, _, _, _, _, b1, _⟩
        exact ⟨u, Or.inr ⟨_, b1.cell 2, rfl⟩⟩
      · rintro e w' ⟨rfl, e', _, ga, gr, lq, lr, l0, m1, b1, u1, a1, r1, k1⟩
        simp only [hd', hs, if_true, Bool.true_eq_false, if_false]
        refine ⟨ga, gr, rfl, ⟨m1.reQ (fun b hb => ?_), b1, ⟨⟨nqu, p0u⟩, u1⟩, fun q e => ?_, fun q e => ?_, fun q p e ep => ?_⟩, fun b hb hne => k1 b (Or.inl hb) hne (fun (e : b = gu) => nqu (e ▸ hb))⟩
        · rcases hb with hb | hb | ⟨q, e, e2⟩ | ⟨q, e, e2⟩
          · exact Or.inl (Or.inl hb)
          · exact Or.inl (Or.inr (Or.inl hb))
          · injection e with e
            exact Or.inr (Or.inl (by rw [e2, ← e]))
          · injection e with e
            subst e
            rcases e2 with e2 | ⟨p, e3, _⟩
            · exact Or.inr (Or.inr e2)
            · cases e3
        · injection e with e
          subst e
          exact ⟨⟨fun hq => Nat.lt_irrefl _ (lq _ (Or.inl hq)), l0⟩, a1⟩
        · injection e with e
          subst e
          exact ⟨⟨fun hq => Nat.lt_irrefl _ (Nat.lt_trans (lq _ (Or.inl hq)) lr), Nat.le_of_lt (Nat.lt_of_le_of_lt l0 lr)⟩, r1⟩
        · injection e with e
          subst e
          cases ep
    · refine (takeGo_popPart c2 (popPart_slot (t := t) (nx := tkF 91 gt) (av := .pointer av) (rc := .pointer none) (dry := dry) (empty := empty) (gen := gen) hb hst (Or.inl qt) p0 nug hd' hw'.top hs) false ?_).mono ?_
      · rintro e w' ⟨u, _, b1, _, _⟩
        exact ⟨u, Or.inr ⟨_, b1.cell 2, rfl⟩⟩
      · rintro e w' ⟨rfl, e', _, m1, b1, u1, k1⟩
        simp only [hd', hs, Bool.true_eq_false, if_false]
        exact ⟨0, 0, rfl, H.stay (x' := ⟨5, gu, y, av, none, none, dry, empty, gen⟩) rfl rfl rfl m1 b1 u1 k1, fun b hb hne => k1 b (Or.inl hb) hne (fun (e : b = gu) => nqu (e ▸ hb))⟩
set_option maxRecDepth 100000 in
theorem tkStep_4 {T L : Nat} (hp : x.part = 4) (h : TkAt Q w0 w gm gt gl dv pv t x s) (hc : Calm s) (ok : Okay F) (h22 : F 22 = -2) (hw : ∀ x', x' = (popS F t x.pop s).1 → x'.Wf) (hx : x.Wf T L) (hl : Blk w gl 173 (cellsF F)) (qt : Q gt) (ql : Q gl) (p0 : w0.heap.size ≤ gt) :
    Calls Tryz.prog 19 #[.pointer (some ⟨gt, 0, none⟩), .pointer (some ⟨gm, 0, none⟩)] w (TkPost Q w0 w gm gt gl dv pv t x s F T) := by
  have H := h
  obtain ⟨part, gu, pop, av, adv, rc, dry, empty, gen⟩ := x
  simp only at hp
  subst hp
  have e2 := hx.p4 (Or.inr (Nat.le_refl 4))
  simp only at e2
  subst e2
  obtain ⟨gr, r, e1⟩ := hx.p4r rfl
  simp only at e1
  subst e1
  obtain ⟨hm, hb, ⟨⟨nqu, p0u⟩, hu⟩, ha, hr, hpu⟩ := h
  simp only at hw nqu p0u hu
  have nug : gu ≠ gt := hu.ne hb (by decide)
  have hst := popStep_ok hm hc ok hx.pop hu hl h22 (Or.inr (Or.inl rfl)) (Or.inl ql) p0u
  have et : ∀ n1 n2, tkS F T t ⟨4, gu, pop, av, none, some (gr, r), dry, empty, gen⟩ s n1 n2 = tk4 ⟨4, gu, pop, av, none, some (gr, r), dry, empty, gen⟩ (popS F t pop s) := fun _ _ => rfl
  unfold TkPost
  simp only [et]
  have hw' := hw _ rfl
  generalize popS F t pop s = p at *
  obtain ⟨y, s'⟩ := p
  simp only at hst hw'
  unfold tk4
  have c2 : w.cell? ⟨gt, 2, none⟩ = some (tkF 91 gt) := hb.cell 2
  by_cases hd : y.dn = false
  · rw [hd] at hst
    refine (takeGo_popPart c2 (popPart_no (t := t) (nx := tkF 91 gt) (av := .pointer av) (rc := .pointer (some ⟨gr, 0, none⟩)) (dry := dry) (empty := empty) (gen := gen) hb hst (Or.inl qt) nug) false ?_).mono ?_
    · rintro e w' ⟨u, _, b1, _, _⟩
      exact ⟨u, Or.inr ⟨_, b1.cell 2, rfl⟩⟩
    · rintro e w' ⟨rfl, e', _, m1, b1, u1, k1⟩
      simp only [hd, if_true]
      exact ⟨0, 0, rfl, H.stay (x' := ⟨4, gu, y, av, none, some (gr, r), dry, empty, gen⟩) rfl rfl rfl m1 b1 u1 k1, fun b hb hne => k1 b (Or.inl hb) hne (fun (e : b = gu) => nqu (e ▸ hb))⟩
  · have hd' : y.dn = true := by simpa using hd
    rw [hd'] at hst
    by_cases hs : toN y.top = -1
    · refine (takeGo_popPart c2 (popPart_dry (t := t) (nx := tkF 91 gt) (av := .pointer av) (gr := gr) (dry := dry) (empty := empty) (gen := gen) hb hst (Or.inl qt) p0 nug hd' hw'.top hs) true ?_).mono ?_
      · rintro e w' ⟨u, _, b1, _, _⟩
        exact ⟨u, Or.inl ⟨b1.cell 2, rfl⟩⟩
      · rintro e w' ⟨rfl, e', _, m1, b1, u1, k1⟩
        simp only [hd', hs, if_true, Bool.true_eq_false, if_false]
        exact ⟨0, 0, rfl, H.stay (x' := ⟨0, gu, y, av, none, some (gr, r), true, s'.clock, gen⟩) rfl rfl rfl m1 b1 u1 k1, fun b hb hne => k1 b (Or.inl hb) hne (fun (e : b = gu) => nqu (e ▸ hb))⟩
    · refine (takeGo_popPart c2 (popPart_slot (t := t) (nx := tkF 91 gt) (av := .pointer av) (rc := .pointer (some ⟨gr, 0, none⟩)) (dry := dry) (empty := empty) (gen := gen) hb hst (Or.inl qt) p0 nug hd' hw'.top hs) false ?_).mono ?_
      · rintro e w' ⟨u, _, b1, _, _⟩
        exact ⟨u, Or.inr ⟨_, b1.cell 2, rfl⟩⟩
      · rintro e w' ⟨rfl, e', _, m1, b1, u1, k1⟩
        simp only [hd', hs, Bool.true_eq_false, if_false]
        exact ⟨0, 0, rfl, H.stay (x' := ⟨5, gu, y, av, none, some (gr, r), dry, empty, gen⟩) rfl rfl rfl m1 b1 u1 k1, fun b hb hne => k1 b (Or.inl hb) hne (fun (e : b = gu) => nqu (e ▸ hb))⟩
set_option maxRecDepth 100000 in
theorem tkStep_2 {T L : Nat} (hp : x.part = 2) (h : TkAt Q w0 w gm gt gl dv pv t x s) (hc : Calm s) (ok : Okay F) (h21 : F 21 = -1) (hT : F 0 = (T : Int)) (hT5 : T ≤ 500) (hx : x.Wf T L) (hl : Blk w gl 173 (cellsF F)) (qt : Q gt) (ql : Q gl) (p0 : w0.heap.size ≤ gt) :
    Calls Tryz.prog 19 #[.pointer (some ⟨gt, 0, none⟩), .pointer (some ⟨gm, 0, none⟩)] w (TkPost Q w0 w gm gt gl dv pv t x s F T) := by
  obtain ⟨part, gu, pop, av, adv, rc, dry, empty, gen⟩ := x
  simp only at hp
  subst hp
  obtain ⟨ga, a, gr, e1, e2, haw, had, e3⟩ := hx.p2 rfl
  simp only at e1 e2 e3
  subst e1 e2 e3
  obtain ⟨hm, hb, ⟨⟨nqu, p0u⟩, hu⟩, ha, hr, hpu⟩ := h
  simp only at nqu p0u hu
  obtain ⟨⟨nqa, p0a⟩, hA⟩ := ha (ga, a) rfl
  obtain ⟨⟨nqr, p0r⟩, hR⟩ := hr (gr, rc0) rfl
  simp only at nqa p0a hA nqr p0r hR
  have nag : ga ≠ gt := hA.ne hb (by decide)
  have nug : gu ≠ gt := hu.ne hb (by decide)
  have nua : gu ≠ ga := hu.ne hA (by decide)
  have nrg : gr ≠ gt := hR.ne hb (by decide)
  have nra : gr ≠ ga := hR.ne hA (by decide)
  have nlA : gl ≠ ga := hl.ne hA (by decide)
  have qa : (fun b => Q b ∨ TkM.ownB ⟨2, gu, pop, some ⟨ga, 0, none⟩, some (ga, a), some (gr, rc0), dry, empty, gen⟩ b) ga := Or.inr (Or.inr (Or.inl ⟨(ga, a), rfl, rfl⟩))
  have hst := advStep_ok (t := t) hm hc ok haw hT5 h21 hT hA hl qa (Or.inl ql) nlA p0a
  have et : ∀ n1 n2, tkS F T t ⟨2, gu, pop, some ⟨ga, 0, none⟩, some (ga, a), some (gr, rc0), dry, empty, gen⟩ s n1 n2 = tk2 ⟨2, gu, pop, some ⟨ga, 0, none⟩, some (ga, a), some (gr, rc0), dry, empty, gen⟩ ga (advS F T t a s) := fun _ _ => rfl
  unfold TkPost
  simp only [et]
  generalize advS F T t a s = p at *
  obtain ⟨y, s'⟩ := p
  simp only at hst
  unfold tk2
  have c2 : w.cell? ⟨gt, 2, none⟩ = some (tkF 160 gt) := hb.cell 2
  refine (takeGo_advancePart c2 (advancePart_ok (t := t) (nx := tkF 160 gt) (rc := .pointer (some ⟨gr, 0, none⟩)) (dry := dry) (empty := empty) (gen := gen) y.dn hb hst (Or.inl qt) p0 nag hm.lt.2) false ?_).mono ?_
  · rintro e w' ⟨u, _, b1, _, _⟩
    refine ⟨u, Or.inr ?_⟩
    have b2 := b1.cell 2
    cases hd : y.dn
    · rw [hd] at b2
      exact ⟨_, b2, rfl⟩
    · rw [hd] at b2
      exact ⟨_, b2, rfl⟩
  · rintro e w' ⟨rfl, e', _, m1, b1, a1, k1⟩
    have ku := k1 gu (Or.inr (Or.inl rfl)) nug nua
    have kr := k1 gr (Or.inr (Or.inr (Or.inr ⟨(gr, rc0), rfl, Or.inl rfl⟩))) nrg nra
    cases hd : y.dn
    · rw [hd] at b1
      simp only [if_true]
      refine ⟨0, 0, rfl, ⟨m1.reQ (fun b hb => ?_), b1, ⟨⟨nqu, p0u⟩, ku.trans hu⟩, fun q e => ?_, fun q e => ?_, fun q p e ep => ?_⟩, fun b hb hne => k1 b (Or.inl hb) hne (fun (e : b = ga) => nqa (e ▸ hb))⟩
      · rcases hb with hb | hb | ⟨q, e, e2⟩ | ⟨q, e, e2⟩
        · exact Or.inl hb
        · exact Or.inr (Or.inl hb)
        · injection e with e
          exact Or.inr (Or.inr (Or.inl ⟨(ga, a), rfl, by rw [e2, ← e]⟩))
        · exact Or.inr (Or.inr (Or.inr ⟨q, e, e2⟩))
      · injection e with e
        subst e
        exact ⟨⟨nqa, p0a⟩, a1⟩
      · injection e with e
        subst e
        exact ⟨⟨nqr, p0r⟩, kr.trans hR⟩
      · injection e with e
        subst e
        cases ep
    · rw [hd] at b1
      simp only [Bool.true_eq_false, if_false]
      refine ⟨0, 0, rfl, ⟨m1.reQ (fun b hb => ?_), b1, ⟨⟨nqu, p0u⟩, ku.trans hu⟩, fun q e => ?_, fun q e => ?_, fun q p e ep => ?_⟩, fun b hb hne => k1 b (Or.inl hb) hne (fun (e : b = ga) => nqa (e ▸ hb))⟩
      · rcases hb with hb | hb | ⟨q, e, e2⟩ | ⟨q, e, e2⟩
        · exact Or.inl hb
        · exact Or.inr (Or.inl hb)
        · cases e
        · exact Or.inr (Or.inr (Or.inr ⟨q, e, e2⟩))
      · cases e
      · injection e with e
        subst e
        exact ⟨⟨nqr, p0r⟩, kr.trans hR⟩
      · injection e with e
        subst e
        cases ep
/-- The block that a Reclaim makes matters only where it goes on. -/
theorem rcS_any {y : RcM} {s : MSt} (g g' : Nat) (h : (rcS F t y s g).1.dn = true) : rcS F t y s g = rcS F t y s g' := by
  obtain ⟨dn, part, ep, place, sl, push, ct⟩ := y
  unfold rcS at h ⊢
  by_cases hd : dn = true
  · simp only [hd, if_true]
  · simp only [hd] at h ⊢
    by_cases h0 : part = 0
    · simp only [h0, if_true]
    · simp only [h0, if_false] at h ⊢
      by_cases h1 : part = 1
      · simp only [h1, if_true]
      · simp only [h1, if_false] at h ⊢
        by_cases h2 : part = 2
        · simp only [h2, if_true] at h
          cases h
        · simp only [h2, if_false]
theorem rcS_dn {y : RcM} {s : MSt} (g g' : Nat) : (rcS F t y s g).1.dn = (rcS F t y s g').1.dn := by
  cases h : (rcS F t y s g).1.dn
  · cases h2 : (rcS F t y s g').1.dn
    · rfl
    · rw [rcS_any g' g h2, h] at h2
      cases h2
  · rw [← rcS_any g g' h, h]
set_option maxRecDepth 100000 in
theorem tkStep_3 {T L : Nat} (hp : x.part = 3) (h : TkAt Q w0 w gm gt gl dv pv t x s) (hc : Calm s) (ok : Okay F) (h21 : F 21 = -1) (h22 : F 22 = -2) (hL : F 2 = (L : Int)) (hL5 : L ≤ 500) (hwr : ∀ q g, x.rc = some q → (rcS F t q.2 s g).1.Wf1 (L : Int)) (hx : x.Wf T L) (hl : Blk w gl 173 (cellsF F)) (qt : Q gt) (ql : Q gl) (p0 : w0.heap.size ≤ gt) :
    Calls Tryz.prog 19 #[.pointer (some ⟨gt, 0, none⟩), .pointer (some ⟨gm, 0, none⟩)] w (TkPost Q w0 w gm gt gl dv pv t x s F T) := by
  obtain ⟨part, gu, pop, av, adv, rc, dry, empty, gen⟩ := x
  simp only at hp
  subst hp
  obtain ⟨gr, r, e1, hrw, hrd, e2⟩ := hx.p3 rfl
  simp only at e1 e2
  subst e1 e2
  obtain ⟨hm, hb, ⟨⟨nqu, p0u⟩, hu⟩, ha, hr, hpu⟩ := h
  simp only at nqu p0u hu
  obtain ⟨⟨nqr, p0r⟩, hR⟩ := hr (gr, r) rfl
  simp only at nqr p0r hR
  have nug : gu ≠ gt := hu.ne hb (by decide)
  have nrg : gr ≠ gt := hR.ne hb (by decide)
  have nur : gu ≠ gr := hu.ne hR (by decide)
  have nlr : gl ≠ gr := hl.ne hR (by decide)
  have ra : RcAt (fun b => Q b ∨ b = gu ∨ b = gr) w0 w gm gr gl dv pv t r s := by
    refine ⟨hm.reQ (fun b hb => ?_), hR, fun q e => ?_⟩
    · rcases hb with (hb | hb | hb) | hb
      · exact Or.inl hb
      · exact Or.inr (Or.inl hb)
      · exact Or.inr (Or.inr (Or.inr ⟨(gr, r), rfl, Or.inl hb⟩))
      · exact Or.inr (Or.inr (Or.inr ⟨(gr, r), rfl, Or.inr hb⟩))
    · obtain ⟨⟨n1, n2⟩, n3⟩ := hpu (gr, r) q rfl e
      refine ⟨⟨fun hq => ?_, n2⟩, n3⟩
      rcases hq with hq | hq | hq
      · exact n1 hq
      · exact n3.ne hu (by decide) hq
      · exact n3.ne hR (by decide) hq
  have hst := rcStep_ok ra hc ok h21 h22 hrw hL hL5 hl (Or.inr (Or.inr rfl)) (Or.inl ql) nlr p0r
  have et : ∀ n1 n2, tkS F T t ⟨3, gu, pop, av, none, some (gr, r), dry, empty, gen⟩ s n1 n2 = tk3 ⟨3, gu, pop, av, none, some (gr, r), dry, empty, gen⟩ gr (rcS F t r s n1) n2 := fun _ _ => rfl
  unfold TkPost
  simp only [et]
  unfold tk3
  have c2 : w.cell? ⟨gt, 2, none⟩ = some (tkF 205 gt) := hb.cell 2
  cases hd : (rcS F t r s 0).1.dn
  · have hdg : ∀ g, (rcS F t r s g).1.dn = false := fun g => (rcS_dn g 0).trans hd
    refine (takeGo_reclaimPart c2 (reclaimPart_no (t := t) (nx := tkF 205 gt) (av := .pointer av) (dry := dry) (empty := empty) (gen := gen) hb hst (by rintro e w' ⟨g, he, _⟩; rw [he, hdg])) false ?_).mono ?_
    · rintro e w' ⟨u, e', g, _, _, k⟩
      refine ⟨u, Or.inr ⟨205, ?_, rfl⟩⟩
      have b1 : Blk w' gt 149 (TkM.cells ⟨3, gu, pop, av, none, some (gr, r), dry, empty, gen⟩ gl gt t) := (k gt (Or.inl qt) (fun e => nrg e.symm)).trans hb
      exact b1.cell 2
    · rintro e w' ⟨rfl, e', _, e2, g, _, ⟨m1, b1, u1⟩, k1⟩
      simp only [hdg, if_true]
      refine ⟨g, 0, rfl, ⟨m1.reQ (fun b hb => ?_), (k1 gt (Or.inl qt) (fun e => nrg e.symm)).trans hb, ⟨⟨nqu, p0u⟩, (k1 gu (Or.inr (Or.inl rfl)) nur).trans hu⟩, fun q e => ?_, fun q e => ?_, fun q p e ep => ?_⟩, fun b hb hne => k1 b (Or.inl hb) (fun (e : b = gr) => nqr (e ▸ hb))⟩
      · rcases hb with hb | hb | ⟨q, e, _⟩ | ⟨q, e, e2⟩
        · exact Or.inl (Or.inl hb)
        · exact Or.inl (Or.inr (Or.inl hb))
        · cases e
        · injection e with e
          subst e
          rcases e2 with e2 | e2
          · exact Or.inl (Or.inr (Or.inr e2))
          · exact Or.inr e2
      · cases e
      · injection e with e
        subst e
        exact ⟨⟨nqr, p0r⟩, b1⟩
      · injection e with e
        subst e
        obtain ⟨⟨n1, n2⟩, n3⟩ := u1 p ep
        exact ⟨⟨fun hq => n1 (Or.inl hq), n2⟩, n3⟩
  · have hpn : (rcS F t r s 0).1.push = none := (hwr (gr, r) 0 rfl).wf.nodn hd
    have hst2 : Calls Tryz.prog 63 #[.pointer (some ⟨gr, 0, none⟩), .pointer (some ⟨gm, 0, none⟩)] w (StepPost (fun b => Q b ∨ b = gu ∨ b = gr) w0 w gm gr 206 dv pv (rcS F t r s 0).2 true ((rcS F t r s 0).1.cells gl t)) := hst.mono (by
      rintro e w' ⟨g, he, hat, k⟩
      have hg : rcS F t r s g = rcS F t r s 0 := rcS_any g 0 ((rcS_dn g 0).trans hd)
      rw [hg] at he hat
      rw [hd] at he
      exact ⟨he, hat.mem.reQ (fun b hb => Or.inl hb), hat.blk, k⟩)
    refine (takeGo_reclaimPart c2 (reclaimPart_yes (t := t) (nx := tkF 205 gt) (av := .pointer av) (dry := dry) (empty := empty) (gen := gen) hb hst2 (Or.inl qt) p0 nrg) false ?_).mono ?_
    · rintro e w' ⟨u, gu', _, _, _, b1, _⟩
      exact ⟨u, Or.inr ⟨_, b1.cell 2, rfl⟩⟩
    · rintro e w' ⟨rfl, e', _, gu', lq, l0, m1, b1, u1, r1, k1⟩
      refine ⟨0, gu', ?_⟩
      simp only [hd, Bool.true_eq_false, if_false]
      refine ⟨rfl, ⟨m1.reQ (fun b hb => ?_), b1, ⟨⟨fun hq => Nat.lt_irrefl _ (lq _ (Or.inl hq)), l0⟩, u1⟩, fun q e => ?_, fun q e => ?_, fun q p e ep => ?_⟩, fun b hb hne => k1 b (Or.inl hb) hne (fun (e : b = gr) => nqr (e ▸ hb))⟩
      · rcases hb with hb | hb | ⟨q, e, _⟩ | ⟨q, e, e2⟩
        · exact Or.inl (Or.inl hb)
        · exact Or.inr hb
        · cases e
        · injection e with e
          subst e
          rcases e2 with e2 | ⟨p, e3, _⟩
          · exact Or.inl (Or.inr (Or.inr e2))
          · rw [hpn] at e3
            cases e3
      · cases e
      · injection e with e
        subst e
        exact ⟨⟨nqr, p0r⟩, r1⟩
      · injection e with e
        subst e
        rw [hpn] at ep
        cases ep
set_option maxRecDepth 100000 in
theorem tkStep_5 {T L : Nat} {i : Nat} (hp : x.part = 5) (h : TkAt Q w0 w gm gt gl dv pv t x s) (hc : Calm s) (hi : i ≤ 1000) (fine : Fine i s.dev) (ok : Okay F) (hx : x.Wf T L) (hl : Blk w gl 173 (cellsF F)) (qt : Q gt) (ql : Q gl) (p0 : w0.heap.size ≤ gt) :
    Calls Tryz.prog 19 #[.pointer (some ⟨gt, 0, none⟩), .pointer (some ⟨gm, 0, none⟩)] w (TkPost Q w0 w gm gt gl dv pv t x s F T) := by
  have H := h
  obtain ⟨part, gu, pop, av, adv, rc, dry, empty, gen⟩ := x
  simp only at hp
  subst hp
  obtain ⟨hm, hb, ⟨⟨nqu, p0u⟩, hu⟩, ha, hr, hpu⟩ := h
  simp only at nqu p0u hu
  have nug : gu ≠ gt := hu.ne hb (by decide)
  have hd := (hx.p5 (by show 5 ≤ 5; decide)).1
  have hs := (hx.p5 (by show 5 ≤ 5; decide)).2
  have ht := hx.pop.top
  simp only at hd hs ht
  have c2 : w.cell? ⟨gt, 2, none⟩ = some (tkF 158 gt) := hb.cell 2
  refine (takeStep_intendPart c2 (intendPart_ok hm hc ok hb hl (Or.inl qt) (Or.inl ql) p0 hu (Or.inr (Or.inl rfl)) hd ht hs) false (Or.inr ⟨_, rfl, rfl⟩)).mono ?_
  rintro e w' ⟨rfl, m1, b1, k1⟩
  exact ⟨0, 0, rfl, H.stay (x' := ⟨6, gu, pop, av, adv, rc, dry, empty, gen⟩) rfl rfl rfl m1 b1 ((k1 gu (Or.inr (Or.inl rfl)) nug).trans hu) (fun b hb hne _ => k1 b hb hne), fun b hb hne => k1 b (Or.inl hb) hne⟩
set_option maxRecDepth 100000 in
theorem tkStep_6 {T L : Nat} {i : Nat} (hp : x.part = 6) (h : TkAt Q w0 w gm gt gl dv pv t x s) (hc : Calm s) (hi : i ≤ 1000) (fine : Fine i s.dev) (ok : Okay F) (hx : x.Wf T L) (hl : Blk w gl 173 (cellsF F)) (qt : Q gt) (ql : Q gl) (p0 : w0.heap.size ≤ gt) :
    Calls Tryz.prog 19 #[.pointer (some ⟨gt, 0, none⟩), .pointer (some ⟨gm, 0, none⟩)] w (TkPost Q w0 w gm gt gl dv pv t x s F T) := by
  have H := h
  obtain ⟨part, gu, pop, av, adv, rc, dry, empty, gen⟩ := x
  simp only at hp
  subst hp
  obtain ⟨hm, hb, ⟨⟨nqu, p0u⟩, hu⟩, ha, hr, hpu⟩ := h
  simp only at nqu p0u hu
  have nug : gu ≠ gt := hu.ne hb (by decide)
  have hd := (hx.p5 (by show 5 ≤ 6; decide)).1
  have hs := (hx.p5 (by show 5 ≤ 6; decide)).2
  have ht := hx.pop.top
  simp only at hd hs ht
  have c2 : w.cell? ⟨gt, 2, none⟩ = some (tkF 203 gt) := hb.cell 2
  refine (takeStep_flushPart c2 (flushPart_ok hm hc ok hb hl (Or.inl qt) (Or.inl ql) p0 hi fine) false (Or.inr ⟨_, rfl, rfl⟩)).mono ?_
  rintro e w' ⟨rfl, m1, b1, k1⟩
  exact ⟨0, 0, rfl, H.stay (x' := ⟨7, gu, pop, av, adv, rc, dry, empty, gen⟩) rfl rfl rfl m1 b1 ((k1 gu (Or.inr (Or.inl rfl)) nug).trans hu) (fun b hb hne _ => k1 b hb hne), fun b hb hne => k1 b (Or.inl hb) hne⟩
set_option maxRecDepth 100000 in
theorem tkStep_7 {T L : Nat} {i : Nat} (hp : x.part = 7) (h : TkAt Q w0 w gm gt gl dv pv t x s) (hc : Calm s) (hi : i ≤ 1000) (fine : Fine i s.dev) (ok : Okay F) (hx : x.Wf T L) (hl : Blk w gl 173 (cellsF F)) (qt : Q gt) (ql : Q gl) (p0 : w0.heap.size ≤ gt) :
    Calls Tryz.prog 19 #[.pointer (some ⟨gt, 0, none⟩), .pointer (some ⟨gm, 0, none⟩)] w (TkPost Q w0 w gm gt gl dv pv t x s F T) := by
  have H := h
  obtain ⟨part, gu, pop, av, adv, rc, dry, empty, gen⟩ := x
  simp only at hp
  subst hp
  obtain ⟨hm, hb, ⟨⟨nqu, p0u⟩, hu⟩, ha, hr, hpu⟩ := h
  simp only at nqu p0u hu
  have nug : gu ≠ gt := hu.ne hb (by decide)
  have hd := (hx.p5 (by show 5 ≤ 7; decide)).1
  have hs := (hx.p5 (by show 5 ≤ 7; decide)).2
  have ht := hx.pop.top
  simp only at hd hs ht
  have c2 : w.cell? ⟨gt, 2, none⟩ = some (tkF 224 gt) := hb.cell 2
  refine (takeStep_fencePart c2 (fencePart_ok hm hc ok hb hl (Or.inl qt) (Or.inl ql) p0 hi fine) false (Or.inr ⟨_, rfl, rfl⟩)).mono ?_
  rintro e w' ⟨rfl, m1, b1, k1⟩
  exact ⟨0, 0, rfl, H.stay (x' := ⟨8, gu, pop, av, adv, rc, dry, empty, gen⟩) rfl rfl rfl m1 b1 ((k1 gu (Or.inr (Or.inl rfl)) nug).trans hu) (fun b hb hne _ => k1 b hb hne), fun b hb hne => k1 b (Or.inl hb) hne⟩
set_option maxRecDepth 100000 in
theorem tkStep_8 {T L : Nat} {i : Nat} (hp : x.part = 8) (h : TkAt Q w0 w gm gt gl dv pv t x s) (hc : Calm s) (hi : i ≤ 1000) (fine : Fine i s.dev) (ok : Okay F) (hx : x.Wf T L) (hl : Blk w gl 173 (cellsF F)) (qt : Q gt) (ql : Q gl) (p0 : w0.heap.size ≤ gt) :
    Calls Tryz.prog 19 #[.pointer (some ⟨gt, 0, none⟩), .pointer (some ⟨gm, 0, none⟩)] w (TkPost Q w0 w gm gt gl dv pv t x s F T) := by
  have H := h
  obtain ⟨part, gu, pop, av, adv, rc, dry, empty, gen⟩ := x
  simp only at hp
  subst hp
  obtain ⟨hm, hb, ⟨⟨nqu, p0u⟩, hu⟩, ha, hr, hpu⟩ := h
  simp only at nqu p0u hu
  have nug : gu ≠ gt := hu.ne hb (by decide)
  have hd := (hx.p5 (by show 5 ≤ 8; decide)).1
  have hs := (hx.p5 (by show 5 ≤ 8; decide)).2
  have ht := hx.pop.top
  simp only at hd hs ht
  have c2 : w.cell? ⟨gt, 2, none⟩ = some (tkF 240 gt) := hb.cell 2
  refine (takeStep_loadPart c2 (loadPart_ok hm hc ok hb hl (Or.inl qt) (Or.inl ql) p0 hu (Or.inr (Or.inl rfl)) hd ht hs) false (Or.inr ⟨_, rfl, rfl⟩)).mono ?_
  rintro e w' ⟨rfl, m1, b1, k1⟩
  exact ⟨0, 0, rfl, H.stay (x' := ⟨9, gu, pop, av, adv, rc, dry, empty, (peekV s (genN F (toN pop.top)))⟩) rfl rfl rfl m1 b1 ((k1 gu (Or.inr (Or.inl rfl)) nug).trans hu) (fun b hb hne _ => k1 b hb hne), fun b hb hne => k1 b (Or.inl hb) hne⟩
set_option maxRecDepth 100000 in
theorem tkStep_9 {T L : Nat} {i : Nat} (hp : x.part = 9) (h : TkAt Q w0 w gm gt gl dv pv t x s) (hc : Calm s) (hi : i ≤ 1000) (fine : Fine i s.dev) (ok : Okay F) (hx : x.Wf T L) (hl : Blk w gl 173 (cellsF F)) (qt : Q gt) (ql : Q gl) (p0 : w0.heap.size ≤ gt) :
    Calls Tryz.prog 19 #[.pointer (some ⟨gt, 0, none⟩), .pointer (some ⟨gm, 0, none⟩)] w (TkPost Q w0 w gm gt gl dv pv t x s F T) := by
  have H := h
  obtain ⟨part, gu, pop, av, adv, rc, dry, empty, gen⟩ := x
  simp only at hp
  subst hp
  obtain ⟨hm, hb, ⟨⟨nqu, p0u⟩, hu⟩, ha, hr, hpu⟩ := h
  simp only at nqu p0u hu
  have nug : gu ≠ gt := hu.ne hb (by decide)
  have hd := (hx.p5 (by show 5 ≤ 9; decide)).1
  have hs := (hx.p5 (by show 5 ≤ 9; decide)).2
  have ht := hx.pop.top
  simp only at hd hs ht
  have c2 : w.cell? ⟨gt, 2, none⟩ = some (tkF 253 gt) := hb.cell 2
  refine (takeStep_storePart c2 (storePart_ok hm hc ok hb hl (Or.inl qt) (Or.inl ql) p0 hu (Or.inr (Or.inl rfl)) hd ht hs) true (Or.inl ⟨rfl, rfl⟩)).mono ?_
  rintro e w' ⟨rfl, m1, b1, k1⟩
  exact ⟨0, 0, rfl, H.stay (x' := ⟨0, gu, pop, av, adv, rc, dry, empty, gen⟩) rfl rfl rfl m1 b1 ((k1 gu (Or.inr (Or.inl rfl)) nug).trans hu) (fun b hb hne _ => k1 b hb hne), fun b hb hne => k1 b (Or.inl hb) hne⟩
set_option maxRecDepth 100000 in
theorem tkStep_0 {T : Nat} (hp : x.part = 0) (h : TkAt Q w0 w gm gt gl dv pv t x s) :
    Calls Tryz.prog 19 #[.pointer (some ⟨gt, 0, none⟩), .pointer (some ⟨gm, 0, none⟩)] w (TkPost Q w0 w gm gt gl dv pv t x s F T) := by
  have H := h
  obtain ⟨part, gu, pop, av, adv, rc, dry, empty, gen⟩ := x
  simp only at hp
  subst hp
  obtain ⟨hm, hb, ⟨⟨nqu, p0u⟩, hu⟩, ha, hr, hpu⟩ := h
  refine (takeStep_done hm hb rfl).mono ?_
  rintro e w' ⟨rfl, m1, b1, k1⟩
  simp only at nqu p0u hu
  have nug : gu ≠ gt := hu.ne hb (by decide)
  exact ⟨0, 0, rfl, H.stay rfl rfl rfl m1 b1 ((k1 gu (Or.inr (Or.inl rfl)) nug).trans hu) (fun b hb hne _ => k1 b hb hne), fun b hb hne => k1 b (Or.inl hb) hne⟩
/-- **A STEP OF A TAKE.** -/
theorem takeStep_ok {T L : Nat} {i : Nat} (h : TkAt Q w0 w gm gt gl dv pv t x s) (hc : Calm s) (hi : i ≤ 1000) (fine : Fine i s.dev) (ok : Okay F) (h21 : F 21 = -1) (h22 : F 22 = -2) (hT : F 0 = (T : Int)) (hT5 : T ≤ 500) (hL : F 2 = (L : Int)) (hL5 : L ≤ 500) (h0L : 0 < L) (hU : ∀ a, W64 (peekV s a)) {n : Int} (hcn : CalmN n s) (hx : x.Wf T L) (hl : Blk w gl 173 (cellsF F)) (qt : Q gt) (ql : Q gl) (p0 : w0.heap.size ≤ gt) :
    Calls Tryz.prog 19 #[.pointer (some ⟨gt, 0, none⟩), .pointer (some ⟨gm, 0, none⟩)] w (TkPost Q w0 w gm gt gl dv pv t x s F T) := by
  have h9 := hx.part
  have hcs : x.part = 0 ∨ x.part = 1 ∨ x.part = 2 ∨ x.part = 3 ∨ x.part = 4 ∨ x.part = 5 ∨ x.part = 6 ∨ x.part = 7 ∨ x.part = 8 ∨ x.part = 9 := by omega
  rcases hcs with e | e | e | e | e | e | e | e | e | e
  · exact tkStep_0 e h
  · exact tkStep_1 e h hc ok h22 (fun x' e => by rw [e]; exact (popS_wf hU hx.pop hcn).1) hx hl qt ql p0
  · exact tkStep_2 e h hc ok h21 hT hT5 hx hl qt ql p0
  · exact tkStep_3 e h hc ok h21 h22 hL hL5 (fun q g e2 => by
      obtain ⟨gr, r, e3, hw, _⟩ := hx.p3 e
      rw [e3] at e2
      injection e2 with e2
      subst e2
      exact (rcS_wf hL h0L hU hw hcn).1) hx hl qt ql p0
  · exact tkStep_4 e h hc ok h22 (fun x' e => by rw [e]; exact (popS_wf hU hx.pop hcn).1) hx hl qt ql p0
  · exact tkStep_5 e h hc hi fine ok hx hl qt ql p0
  · exact tkStep_6 e h hc hi fine ok hx hl qt ql p0
  · exact tkStep_7 e h hc hi fine ok hx hl qt ql p0
  · exact tkStep_8 e h hc hi fine ok hx hl qt ql p0
  · exact tkStep_9 e h hc hi fine ok hx hl qt ql p0
end
end Go.Proofs.YtbicloceaddinaaGreat


/- Arena: what a Take's step keeps. Conditions: those that each theorem names. -/
namespace Go.Proofs.YtbicloceaddinaaGreat
open Go.ChangeShapes Go.WideShapes Go.ChangeAt Go.RowKit
set_option linter.unusedVariables false
theorem am0_wf {T : Nat} : am0.Wf T := ⟨w64_0, Nat.zero_le _⟩
theorem rc0_wf {L : Nat} (h : 0 < L) : rc0.Wf1 (L : Int) := RcM.wf0 (by omega)
theorem pm0_wf : pm0.Wf := PMs.wf0
theorem toN_or {w : Int} (hw : W64 w) (h : ¬ toN w = -1) : 0 ≤ toN w := by have := toN_rng hw; omega
theorem tkNew_wf {T L : Nat} {gu : Nat} {av : Option Addr} {e g : Int} : (⟨1, gu, pm0, av, none, none, false, e, g⟩ : TkM).Wf T L := by
  apply TkM.Wf.mk
  case part => exact Nat.le_of_ble_eq_true rfl
  case pop => exact pm0_wf
  case p1 => exact fun _ => ⟨rfl, rfl⟩
  case p14 => exact fun _ => rfl
  case p23 => exact fun h => absurd h (by simp)
  case p2 => exact fun h => absurd h (by simp)
  case p3 => exact fun h => absurd h (by simp)
  case p4 => exact fun h => absurd h (by simp)
  case p4r => exact fun h => absurd h (by simp)
  case p5 => exact fun h => absurd h (by simp)
  case p0 => exact fun h => absurd h (by simp)
  case rd => exact fun h => absurd h (by simp)
section
variable {F : Nat → Int} {t n : Int} {x : TkM} {s : MSt} {T L : Nat} {n1 n2 : Nat}
theorem tkS_wf1 (hp : x.part = 1) (hL : F 2 = (L : Int)) (h0L : 0 < L) (hU : ∀ a, W64 (peekV s a)) (hx : x.Wf T L) (hc : CalmN n s) : (tkS F T t x s n1 n2).1.Wf T L ∧ CalmN (n + 1) (tkS F T t x s n1 n2).2 := by
  obtain ⟨part, gu, pop, av, adv, rc, dry, empty, gen⟩ := x
  simp only at hp
  subst hp
  obtain ⟨e1, e2⟩ := hx.p1 rfl
  simp only at e1 e2
  subst e1 e2
  have hw := popS_wf (F := F) (t := t) hU hx.pop hc
  have et : tkS F T t ⟨1, gu, pop, av, none, none, dry, empty, gen⟩ s n1 n2 = tk1 ⟨1, gu, pop, av, none, none, dry, empty, gen⟩ (popS F t pop s) n1 n2 := rfl
  rw [et]
  generalize popS F t pop s = p at *
  refine ⟨?_, hw.2⟩
  unfold tk1
  by_cases hd : p.1.dn = false
  · simp only [hd, if_true]
    apply TkM.Wf.mk
    case part => exact Nat.le_of_ble_eq_true rfl
    case pop => exact hw.1
    case p1 => exact fun _ => ⟨rfl, rfl⟩
    case p14 => exact fun _ => hd
    case p23 => exact fun h => absurd h (by simp)
    case p2 => exact fun h => absurd h (by simp)
    case p3 => exact fun h => absurd h (by simp)
    case p4 => exact fun h => absurd h (by simp)
    case p4r => exact fun h => absurd h (by simp)
    case p5 => exact fun h => absurd h (by simp)
    case p0 => exact fun h => absurd h (by simp)
    case rd => exact fun h => absurd h (by simp)
  · have hd' : p.1.dn = true := by simpa using hd
    by_cases hs : toN p.1.top = -1
    · simp only [hd', hs, if_true, Bool.true_eq_false, if_false]
      apply TkM.Wf.mk
      case part => exact Nat.le_of_ble_eq_true rfl
      case pop => exact hw.1
      case p1 => exact fun h => absurd h (by simp)
      case p14 => exact fun h => absurd h (by simp)
      case p23 => exact fun _ => ⟨hd', hs⟩
      case p2 => exact fun _ => ⟨n1, am0, n2, rfl, rfl, am0_wf, rfl, rfl⟩
      case p3 => exact fun h => absurd h (by simp)
      case p4 => exact fun h => absurd h (by simp)
      case p4r => exact fun h => absurd h (by simp)
      case p5 => exact fun h => absurd h (by simp)
      case p0 => exact fun h => absurd h (by simp)
      case rd => exact fun h => absurd h (by simp)
    · simp only [hd', hs, Bool.true_eq_false, if_false]
      apply TkM.Wf.mk
      case part => exact Nat.le_of_ble_eq_true rfl
      case pop => exact hw.1
      case p1 => exact fun h => absurd h (by simp)
      case p14 => exact fun h => absurd h (by simp)
      case p23 => exact fun h => absurd h (by simp)
      case p2 => exact fun h => absurd h (by simp)
      case p3 => exact fun h => absurd h (by simp)
      case p4 => exact fun _ => rfl
      case p4r => exact fun h => absurd h (by simp)
      case p5 => exact fun _ => ⟨hd', toN_or hw.1.top hs⟩
      case p0 => exact fun h => absurd h (by simp)
      case rd => exact fun _ q e => by cases e
theorem tkS_wf4 (hp : x.part = 4) (hL : F 2 = (L : Int)) (h0L : 0 < L) (hU : ∀ a, W64 (peekV s a)) (hx : x.Wf T L) (hc : CalmN n s) : (tkS F T t x s n1 n2).1.Wf T L ∧ CalmN (n + 1) (tkS F T t x s n1 n2).2 := by
  obtain ⟨part, gu, pop, av, adv, rc, dry, empty, gen⟩ := x
  simp only at hp
  subst hp
  have e2 := hx.p4 (Or.inr (Nat.le_refl 4))
  simp only at e2
  subst e2
  obtain ⟨gr, r, e1⟩ := hx.p4r rfl
  simp only at e1
  subst e1
  have hrd := hx.rd (Or.inr (Nat.le_refl 4))
  have hw := popS_wf (F := F) (t := t) hU hx.pop hc
  have et : tkS F T t ⟨4, gu, pop, av, none, some (gr, r), dry, empty, gen⟩ s n1 n2 = tk4 ⟨4, gu, pop, av, none, some (gr, r), dry, empty, gen⟩ (popS F t pop s) := rfl
  rw [et]
  generalize popS F t pop s = p at *
  refine ⟨?_, hw.2⟩
  unfold tk4
  by_cases hd : p.1.dn = false
  · simp only [hd, if_true]
    apply TkM.Wf.mk
    case part => exact Nat.le_of_ble_eq_true rfl
    case pop => exact hw.1
    case p1 => exact fun h => absurd h (by simp)
    case p14 => exact fun _ => hd
    case p23 => exact fun h => absurd h (by simp)
    case p2 => exact fun h => absurd h (by simp)
    case p3 => exact fun h => absurd h (by simp)
    case p4 => exact fun _ => rfl
    case p4r => exact fun _ => ⟨gr, r, rfl⟩
    case p5 => exact fun h => absurd h (by simp)
    case p0 => exact fun h => absurd h (by simp)
    case rd => exact fun _ => hrd
  · have hd' : p.1.dn = true := by simpa using hd
    by_cases hs : toN p.1.top = -1
    · simp only [hd', hs, if_true, Bool.true_eq_false, if_false]
      apply TkM.Wf.mk
      case part => exact Nat.le_of_ble_eq_true rfl
      case pop => exact hw.1
      case p1 => exact fun h => absurd h (by simp)
      case p14 => exact fun h => absurd h (by simp)
      case p23 => exact fun h => absurd h (by simp)
      case p2 => exact fun h => absurd h (by simp)
      case p3 => exact fun h => absurd h (by simp)
      case p4 => exact fun _ => rfl
      case p4r => exact fun h => absurd h (by simp)
      case p5 => exact fun h => absurd h (by simp)
      case p0 => exact fun _ => hd'
      case rd => exact fun _ => hrd
    · simp only [hd', hs, Bool.true_eq_false, if_false]
      apply TkM.Wf.mk
      case part => exact Nat.le_of_ble_eq_true rfl
      case pop => exact hw.1
      case p1 => exact fun h => absurd h (by simp)
      case p14 => exact fun h => absurd h (by simp)
      case p23 => exact fun h => absurd h (by simp)
      case p2 => exact fun h => absurd h (by simp)
      case p3 => exact fun h => absurd h (by simp)
      case p4 => exact fun _ => rfl
      case p4r => exact fun h => absurd h (by simp)
      case p5 => exact fun _ => ⟨hd', toN_or hw.1.top hs⟩
      case p0 => exact fun h => absurd h (by simp)
      case rd => exact fun _ => hrd
theorem tkS_wf2 (hp : x.part = 2) (hL : F 2 = (L : Int)) (h0L : 0 < L) (hU : ∀ a, W64 (peekV s a)) (hx : x.Wf T L) (hc : CalmN n s) : (tkS F T t x s n1 n2).1.Wf T L ∧ CalmN (n + 1) (tkS F T t x s n1 n2).2 := by
  obtain ⟨part, gu, pop, av, adv, rc, dry, empty, gen⟩ := x
  simp only at hp
  subst hp
  obtain ⟨ga, a, gr, e1, e2, haw, had, e3⟩ := hx.p2 rfl
  have h23 := hx.p23 (Or.inl rfl)
  simp only at e1 e2 e3 h23
  subst e1 e2 e3
  have hw := advS_wf (F := F) (T := T) (t := t) (hU (-1)) haw hc
  have et : tkS F T t ⟨2, gu, pop, some ⟨ga, 0, none⟩, some (ga, a), some (gr, rc0), dry, empty, gen⟩ s n1 n2 = tk2 ⟨2, gu, pop, some ⟨ga, 0, none⟩, some (ga, a), some (gr, rc0), dry, empty, gen⟩ ga (advS F T t a s) := rfl
  rw [et]
  generalize advS F T t a s = p at *
  refine ⟨?_, hw.2⟩
  unfold tk2
  by_cases hd : p.1.dn = false
  · simp only [hd, if_true]
    apply TkM.Wf.mk
    case part => exact Nat.le_of_ble_eq_true rfl
    case pop => exact hx.pop
    case p1 => exact fun h => absurd h (by simp)
    case p14 => exact fun h => absurd h (by simp)
    case p23 => exact fun _ => h23
    case p2 => exact fun _ => ⟨ga, p.1, gr, rfl, rfl, hw.1, hd, rfl⟩
    case p3 => exact fun h => absurd h (by simp)
    case p4 => exact fun h => absurd h (by simp)
    case p4r => exact fun h => absurd h (by simp)
    case p5 => exact fun h => absurd h (by simp)
    case p0 => exact fun h => absurd h (by simp)
    case rd => exact fun h => absurd h (by simp)
  · have hd' : p.1.dn = true := by simpa using hd
    simp only [hd', Bool.true_eq_false, if_false]
    apply TkM.Wf.mk
    case part => exact Nat.le_of_ble_eq_true rfl
    case pop => exact hx.pop
    case p1 => exact fun h => absurd h (by simp)
    case p14 => exact fun h => absurd h (by simp)
    case p23 => exact fun _ => h23
    case p2 => exact fun h => absurd h (by simp)
    case p3 => exact fun _ => ⟨gr, rc0, rfl, rc0_wf h0L, rfl, rfl⟩
    case p4 => exact fun h => absurd h (by simp)
    case p4r => exact fun h => absurd h (by simp)
    case p5 => exact fun h => absurd h (by simp)
    case p0 => exact fun h => absurd h (by simp)
    case rd => exact fun h => absurd h (by simp)
theorem tkS_wf3 (hp : x.part = 3) (hL : F 2 = (L : Int)) (h0L : 0 < L) (hU : ∀ a, W64 (peekV s a)) (hx : x.Wf T L) (hc : CalmN n s) : (tkS F T t x s n1 n2).1.Wf T L ∧ CalmN (n + 1) (tkS F T t x s n1 n2).2 := by
  obtain ⟨part, gu, pop, av, adv, rc, dry, empty, gen⟩ := x
  simp only at hp
  subst hp
  obtain ⟨gr, r, e1, hrw, hrd, e2⟩ := hx.p3 rfl
  have h23 := hx.p23 (Or.inr rfl)
  simp only at e1 e2 h23
  subst e1 e2
  have hw := rcS_wf (F := F) (t := t) (g := n1) hL h0L hU hrw hc
  have et : tkS F T t ⟨3, gu, pop, av, none, some (gr, r), dry, empty, gen⟩ s n1 n2 = tk3 ⟨3, gu, pop, av, none, some (gr, r), dry, empty, gen⟩ gr (rcS F t r s n1) n2 := rfl
  rw [et]
  generalize rcS F t r s n1 = p at *
  refine ⟨?_, hw.2⟩
  unfold tk3
  by_cases hd : p.1.dn = false
  · simp only [hd, if_true]
    apply TkM.Wf.mk
    case part => exact Nat.le_of_ble_eq_true rfl
    case pop => exact hx.pop
    case p1 => exact fun h => absurd h (by simp)
    case p14 => exact fun h => absurd h (by simp)
    case p23 => exact fun _ => h23
    case p2 => exact fun h => absurd h (by simp)
    case p3 => exact fun _ => ⟨gr, p.1, rfl, hw.1, hd, rfl⟩
    case p4 => exact fun h => absurd h (by simp)
    case p4r => exact fun h => absurd h (by simp)
    case p5 => exact fun h => absurd h (by simp)
    case p0 => exact fun h => absurd h (by simp)
    case rd => exact fun h => absurd h (by simp)
  · have hd' : p.1.dn = true := by simpa using hd
    simp only [hd', Bool.true_eq_false, if_false]
    apply TkM.Wf.mk
    case part => exact Nat.le_of_ble_eq_true rfl
    case pop => exact pm0_wf
    case p1 => exact fun h => absurd h (by simp)
    case p14 => exact fun _ => rfl
    case p23 => exact fun h => absurd h (by simp)
    case p2 => exact fun h => absurd h (by simp)
    case p3 => exact fun h => absurd h (by simp)
    case p4 => exact fun _ => rfl
    case p4r => exact fun _ => ⟨gr, p.1, rfl⟩
    case p5 => exact fun h => absurd h (by simp)
    case p0 => exact fun h => absurd h (by simp)
    case rd => exact fun _ q e => by injection e with e; subst e; exact ⟨hd', hw.1.wf.nodn hd'⟩
theorem tkS_wf5 (hp : x.part = 5) (hL : F 2 = (L : Int)) (h0L : 0 < L) (hU : ∀ a, W64 (peekV s a)) (hx : x.Wf T L) (hc : CalmN n s) : (tkS F T t x s n1 n2).1.Wf T L ∧ CalmN (n + 1) (tkS F T t x s n1 n2).2 := by
  obtain ⟨part, gu, pop, av, adv, rc, dry, empty, gen⟩ := x
  simp only at hp
  subst hp
  refine ⟨?_, hc.store _ _ _⟩
  show (TkM.to ⟨5, gu, pop, av, adv, rc, dry, empty, gen⟩ 6 _).Wf T L
  unfold TkM.to
  apply TkM.Wf.mk
  case part => exact Nat.le_of_ble_eq_true rfl
  case pop => exact hx.pop
  case p1 => exact fun h => absurd h (by simp)
  case p14 => exact fun h => absurd h (by simp)
  case p23 => exact fun h => absurd h (by simp)
  case p2 => exact fun h => absurd h (by simp)
  case p3 => exact fun h => absurd h (by simp)
  case p4 => exact fun _ => hx.p4 (Or.inr (by show 4 ≤ 5; decide))
  case p4r => exact fun h => absurd h (by simp)
  case p5 => exact fun _ => hx.p5 (by show 5 ≤ 5; decide)
  case p0 => exact fun h => absurd h (by simp)
  case rd => exact fun _ => hx.rd (Or.inr (by show 4 ≤ 5; decide))
theorem tkS_wf6 (hp : x.part = 6) (hL : F 2 = (L : Int)) (h0L : 0 < L) (hU : ∀ a, W64 (peekV s a)) (hx : x.Wf T L) (hc : CalmN n s) : (tkS F T t x s n1 n2).1.Wf T L ∧ CalmN (n + 1) (tkS F T t x s n1 n2).2 := by
  obtain ⟨part, gu, pop, av, adv, rc, dry, empty, gen⟩ := x
  simp only at hp
  subst hp
  refine ⟨?_, act_calm hc 4 t (intN F t) 0 0⟩
  show (TkM.to ⟨6, gu, pop, av, adv, rc, dry, empty, gen⟩ 7 _).Wf T L
  unfold TkM.to
  apply TkM.Wf.mk
  case part => exact Nat.le_of_ble_eq_true rfl
  case pop => exact hx.pop
  case p1 => exact fun h => absurd h (by simp)
  case p14 => exact fun h => absurd h (by simp)
  case p23 => exact fun h => absurd h (by simp)
  case p2 => exact fun h => absurd h (by simp)
  case p3 => exact fun h => absurd h (by simp)
  case p4 => exact fun _ => hx.p4 (Or.inr (by show 4 ≤ 6; decide))
  case p4r => exact fun h => absurd h (by simp)
  case p5 => exact fun _ => hx.p5 (by show 5 ≤ 6; decide)
  case p0 => exact fun h => absurd h (by simp)
  case rd => exact fun _ => hx.rd (Or.inr (by show 4 ≤ 6; decide))
theorem tkS_wf7 (hp : x.part = 7) (hL : F 2 = (L : Int)) (h0L : 0 < L) (hU : ∀ a, W64 (peekV s a)) (hx : x.Wf T L) (hc : CalmN n s) : (tkS F T t x s n1 n2).1.Wf T L ∧ CalmN (n + 1) (tkS F T t x s n1 n2).2 := by
  obtain ⟨part, gu, pop, av, adv, rc, dry, empty, gen⟩ := x
  simp only at hp
  subst hp
  refine ⟨?_, act_calm hc 5 t 0 0 0⟩
  show (TkM.to ⟨7, gu, pop, av, adv, rc, dry, empty, gen⟩ 8 _).Wf T L
  unfold TkM.to
  apply TkM.Wf.mk
  case part => exact Nat.le_of_ble_eq_true rfl
  case pop => exact hx.pop
  case p1 => exact fun h => absurd h (by simp)
  case p14 => exact fun h => absurd h (by simp)
  case p23 => exact fun h => absurd h (by simp)
  case p2 => exact fun h => absurd h (by simp)
  case p3 => exact fun h => absurd h (by simp)
  case p4 => exact fun _ => hx.p4 (Or.inr (by show 4 ≤ 7; decide))
  case p4r => exact fun h => absurd h (by simp)
  case p5 => exact fun _ => hx.p5 (by show 5 ≤ 7; decide)
  case p0 => exact fun h => absurd h (by simp)
  case rd => exact fun _ => hx.rd (Or.inr (by show 4 ≤ 7; decide))
theorem tkS_wf8 (hp : x.part = 8) (hL : F 2 = (L : Int)) (h0L : 0 < L) (hU : ∀ a, W64 (peekV s a)) (hx : x.Wf T L) (hc : CalmN n s) : (tkS F T t x s n1 n2).1.Wf T L ∧ CalmN (n + 1) (tkS F T t x s n1 n2).2 := by
  obtain ⟨part, gu, pop, av, adv, rc, dry, empty, gen⟩ := x
  simp only at hp
  subst hp
  refine ⟨?_, hc.load _ _⟩
  show (TkM.to ⟨8, gu, pop, av, adv, rc, dry, empty, gen⟩ 9 _).Wf T L
  unfold TkM.to
  apply TkM.Wf.mk
  case part => exact Nat.le_of_ble_eq_true rfl
  case pop => exact hx.pop
  case p1 => exact fun h => absurd h (by simp)
  case p14 => exact fun h => absurd h (by simp)
  case p23 => exact fun h => absurd h (by simp)
  case p2 => exact fun h => absurd h (by simp)
  case p3 => exact fun h => absurd h (by simp)
  case p4 => exact fun _ => hx.p4 (Or.inr (by show 4 ≤ 8; decide))
  case p4r => exact fun h => absurd h (by simp)
  case p5 => exact fun _ => hx.p5 (by show 5 ≤ 8; decide)
  case p0 => exact fun h => absurd h (by simp)
  case rd => exact fun _ => hx.rd (Or.inr (by show 4 ≤ 8; decide))
theorem tkS_wf9 (hp : x.part = 9) (hL : F 2 = (L : Int)) (h0L : 0 < L) (hU : ∀ a, W64 (peekV s a)) (hx : x.Wf T L) (hc : CalmN n s) : (tkS F T t x s n1 n2).1.Wf T L ∧ CalmN (n + 1) (tkS F T t x s n1 n2).2 := by
  obtain ⟨part, gu, pop, av, adv, rc, dry, empty, gen⟩ := x
  simp only at hp
  subst hp
  refine ⟨?_, hc.store _ _ _⟩
  show (TkM.to ⟨9, gu, pop, av, adv, rc, dry, empty, gen⟩ 0 _).Wf T L
  unfold TkM.to
  apply TkM.Wf.mk
  case part => exact Nat.le_of_ble_eq_true rfl
  case pop => exact hx.pop
  case p1 => exact fun h => absurd h (by simp)
  case p14 => exact fun h => absurd h (by simp)
  case p23 => exact fun h => absurd h (by simp)
  case p2 => exact fun h => absurd h (by simp)
  case p3 => exact fun h => absurd h (by simp)
  case p4 => exact fun _ => hx.p4 (Or.inr (by show 4 ≤ 9; decide))
  case p4r => exact fun h => absurd h (by simp)
  case p5 => exact fun h => absurd h (by simp)
  case p0 => exact fun _ => (hx.p5 (by show 5 ≤ 9; decide)).1
  case rd => exact fun _ => hx.rd (Or.inr (by show 4 ≤ 9; decide))
theorem tkS_wf (hL : F 2 = (L : Int)) (h0L : 0 < L) (hU : ∀ a, W64 (peekV s a)) (hx : x.Wf T L) (hc : CalmN n s) : (tkS F T t x s n1 n2).1.Wf T L ∧ CalmN (n + 1) (tkS F T t x s n1 n2).2 := by
  have h9 := hx.part
  have hcs : x.part = 0 ∨ x.part = 1 ∨ x.part = 2 ∨ x.part = 3 ∨ x.part = 4 ∨ x.part = 5 ∨ x.part = 6 ∨ x.part = 7 ∨ x.part = 8 ∨ x.part = 9 := by omega
  rcases hcs with e | e | e | e | e | e | e | e | e | e
  · have et : tkS F T t x s n1 n2 = (x, s) := by
      unfold tkS
      rw [e]
      rfl
    rw [et]
    exact ⟨hx, hc.mono (by omega)⟩
  · exact tkS_wf1 e hL h0L hU hx hc
  · exact tkS_wf2 e hL h0L hU hx hc
  · exact tkS_wf3 e hL h0L hU hx hc
  · exact tkS_wf4 e hL h0L hU hx hc
  · exact tkS_wf5 e hL h0L hU hx hc
  · exact tkS_wf6 e hL h0L hU hx hc
  · exact tkS_wf7 e hL h0L hU hx hc
  · exact tkS_wf8 e hL h0L hU hx hc
  · exact tkS_wf9 e hL h0L hU hx hc
theorem popS_fine9 {k : Nat} {y : PMs} (hf : Fine k s.dev) (hn : s.dev.n ≤ 90) : Fine (k + 1) (popS F t y s).2.dev := by
  unfold popS
  repeat' split
  · exact hf.up
  · exact act_fine9 hf hn 1 t (-2) 0 0
  · exact act_fine9 hf hn 1 t (aft F (toN y.top)) 0 0
  · exact act_fine9 hf hn 3 t (-2) y.top (topN y.y (ver1 y.top))
theorem pushS_fine9 {k : Nat} {y : PMs} (hf : Fine k s.dev) (hn : s.dev.n ≤ 90) : Fine (k + 1) (pushS F t y s).2.dev := by
  unfold pushS
  repeat' split
  · exact hf.up
  · exact act_fine9 hf hn 1 t (-2) 0 0
  · exact act_fine9 hf hn 2 t (aft F y.y) 0 (toN y.top + 1)
  · exact act_fine9 hf hn 3 t (-2) y.top (topN y.y (ver1 y.top))
theorem advS_fine9 {k : Nat} {y : AMs} (hf : Fine k s.dev) (hn : s.dev.n ≤ 90) : Fine (k + 1) (advS F T t y s).2.dev := by
  unfold advS
  repeat' split
  · exact hf.up
  · exact act_fine9 hf hn 1 t (-1) 0 0
  · exact act_fine9 hf hn 1 t (ann F y.asked) 0 0
  · exact act_fine9 hf hn 3 t (-1) y.ep (next64 y.ep)
theorem rcS_fine9 {k g : Nat} {y : RcM} (hf : Fine k s.dev) (hn : s.dev.n ≤ 90) : Fine (k + 1) (rcS F t y s g).2.dev := by
  unfold rcS
  split
  · exact hf.up
  split
  · exact act_fine9 hf hn 1 t (-1) 0 0
  split
  · exact act_fine9 hf hn 1 t (logN F t y.place) 0 0
  split
  · exact act_fine9 hf hn 2 t (logN F t y.place) 0 0
  split
  · exact hf.up
  · exact pushS_fine9 hf hn
theorem tkS_fine9 {k : Nat} (hf : Fine k s.dev) (hn : s.dev.n ≤ 90) : Fine (k + 1) (tkS F T t x s n1 n2).2.dev := by
  unfold tkS
  split
  · exact hf.up
  · exact popS_fine9 hf hn
  · split
    · exact hf.up
    · exact advS_fine9 hf hn
  · split
    · exact hf.up
    · exact rcS_fine9 hf hn
  · exact popS_fine9 hf hn
  · exact act_fine9 hf hn 2 t (intN F t) 0 (toN x.pop.top + 1)
  · exact act_fine9 hf hn 4 t (intN F t) 0 0
  · exact act_fine9 hf hn 5 t 0 0 0
  · exact act_fine9 hf hn 1 t (genN F (toN x.pop.top)) 0 0
  · exact act_fine9 hf hn 2 t (genN F (toN x.pop.top)) 0 (IntKind.u64.wrap (x.gen + 1))
end
end Go.Proofs.YtbicloceaddinaaGreat

