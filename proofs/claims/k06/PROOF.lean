import PyProof.Rows.All
import Wide.All
import OpenK.AllK
import Wide.FinOn
import HandS.ForMost
import HandS.Evl
import HandS.IsInst
import HandS.Style
import HandS.DictComp
import HandS.SortInts
import HandS.SetKeys

import HandS.Walk
import KE.GoesEnum
import PySem.Challenge.RW_gossipcount_k06_pages_lacking
set_option Elab.async false
set_option linter.all false
set_option maxRecDepth 100000
set_option maxHeartbeats 4000000
namespace GC
open PySem L2 Evl
/-! ### values told by a predicate, over heaps that only grow -/
abbrev VP := V → Hp → Prop
class Mono (P : VP) : Prop where
  mono : ∀ {v : V} {H H' : Hp}, Ex H H' → P v H → P v H'
def Is (v0 : V) : VP := fun v _ => v = v0
instance {v0 : V} : Mono (Is v0) := ⟨fun _ h => h⟩
/-- a tuple of these values, a list of these values, wherever it stands -/
def Tp (K : PySem.W.Frag) (xs : List V) : VP := fun v H => ∃ p, v = .ref p ∧ SqT K H p xs
def Ls (K : PySem.W.Frag) (xs : List V) : VP := fun v H => ∃ p, v = .ref p ∧ SqL K H p xs
instance {K : PySem.W.Frag} {xs : List V} : Mono (Tp K xs) := ⟨fun e ⟨p, a, b⟩ => ⟨p, a, ex_t e b⟩⟩
instance {K : PySem.W.Frag} {xs : List V} : Mono (Ls K xs) := ⟨fun e ⟨p, a, b⟩ => ⟨p, a, ex_l e b⟩⟩
/-- a new object -/
def Nw (H : Hp) (o : HO) : VP := fun v H2 => ∃ p, v = .ref p ∧ H p = none ∧ H2 p = some o
instance {H : Hp} {o : HO} : Mono (Nw H o) := ⟨fun e ⟨p, a, b, c⟩ => ⟨p, a, b, e p _ c⟩⟩
def EvX (te : TE) (σ : L2.St) (H : Hp) (P : VP) : Prop := ∀ H1, Ex H H1 → ∀ Q : VK, (∀ v H2, Ex H1 H2 → P v H2 → Q v H2) → te σ H1 Q
def EvXA (ta : TA) (σ : L2.St) (H : Hp) (P : List V → Hp → Prop) : Prop := ∀ H1, Ex H H1 → ∀ Q : List V → Hp → Prop, (∀ vs H2, Ex H1 H2 → P vs H2 → Q vs H2) → ta σ H1 Q
def SpX (sp : Sp) (vs : List V) (H : Hp) (P : VP) : Prop := ∀ H1, Ex H H1 → ∀ (Q : VK) (E : XK), (∀ v H2, Ex H1 H2 → P v H2 → Q v H2) → sp vs H1 Q E
def Ret (P : VP) (H : Hp) (Q : VK) : Prop := ∀ v H2, Ex H H2 → P v H2 → Q v H2
/-- a def that changes nothing that stood: its arguments by x, what must hold of them, what is told -/
def SpF {α : Type} (args : α → List V) (Pre : α → Hp → Prop) (Post : α → Hp → VP) : Sp := fun vs H Q _ => ∃ x : α, vs = args x ∧ Pre x H ∧ Ret (Post x H) H Q
section
variable {K : PySem.W.Frag} {σ : L2.St} {H H' : Hp} {ta tb te tx : TE} {t u : TT} {x y z v : V} {P P' R : VP}
theorem sx_of {α : Type} {args : α → List V} {Pre : α → Hp → Prop} {Post : α → Hp → VP} (x : α) (hm : ∀ H1, Ex H H1 → Pre x H1) (hp : ∀ H1 v H2, Ex H H1 → Ex H1 H2 → Post x H1 v H2 → P v H2) : SpX (SpF args Pre Post) (args x) H P :=
  fun H1 e Q _ q => ⟨x, rfl, hm H1 e, fun v H2 e2 h => q v H2 e2 (hp H1 v H2 e e2 h)⟩
theorem sv_of {sp : Sp} {vs : List V} (h : SpX sp vs H (Is v)) : SpV sp vs H v := fun H1 e Q q E => h H1 e Q E fun w H2 e2 hw => by
  cases (show w = v from hw)
  exact q H2 e2
theorem x_ev (h : Ev te σ H v) : EvX te σ H (Is v) := fun H1 e Q q => h H1 e Q fun H2 e2 => q v H2 e2 rfl
theorem ev_x (h : EvX te σ H (Is v)) : Ev te σ H v := fun H1 e Q q => h H1 e Q fun w H2 e2 hw => by
  cases (show w = v from hw)
  exact q H2 e2
theorem x_is (h : Ev te σ H v) (hp : ∀ H1, Ex H H1 → P v H1) : EvX te σ H P := fun H1 e Q q => h H1 e Q fun H2 e2 => q v H2 e2 (hp H2 (e.trans e2))
theorem EvX.mono (e : Ex H H') (h : EvX te σ H P) : EvX te σ H' P := fun H1 a Q q => h H1 (e.trans a) Q q
theorem EvX.imp (h : EvX te σ H P) (hp : ∀ v H1, Ex H H1 → P v H1 → R v H1) : EvX te σ H R := fun H1 e Q q => h H1 e Q fun w H2 e2 hw => q w H2 e2 (hp w H2 (e.trans e2) hw)
theorem x_tup {ta : TA} {vs : List V} (h : EvA ta σ H vs) (hl : vs.length ≤ 100000 := by exact Nat.le_of_ble_eq_true rfl) : EvX (tTup ta) σ H (Nw H (.tup vs)) := fun H1 e Q q =>
  eu_tup h hl H1 e Q fun p H2 hp e2 h2 => q _ H2 e2 ⟨p, rfl, fresh_back e hp, h2⟩
theorem x_lst {ta : TA} {vs : List V} (h : EvA ta σ H vs) (hl : vs.length ≤ 100000 := by exact Nat.le_of_ble_eq_true rfl) : EvX (tLst ta) σ H (Nw H (.lst vs)) := fun H1 e Q q =>
  el_lst h hl H1 e Q fun p H2 hp e2 h2 => q _ H2 e2 ⟨p, rfl, fresh_back e hp, h2⟩
theorem x_dnew : EvX tDNewK σ H (Nw H (.dK [])) := fun H1 e Q q => fun p hp => q _ _ (Ex.new hp) ⟨p, rfl, fresh_back e hp, upd_same⟩
theorem nw_tp {xs : List V} : ∀ v H1, Ex H H1 → Nw H (.tup xs) v H1 → Tp K xs v H1 := fun _ _ _ ⟨p, a, _, c⟩ => ⟨p, a, st_of c⟩
theorem nw_ls {xs : List V} : ∀ v H1, Ex H H1 → Nw H (.lst xs) v H1 → Ls K xs v H1 := fun _ _ _ ⟨p, a, _, c⟩ => ⟨p, a, sq_of c⟩
theorem nw_t {H0 H1 : Hp} {xs : List V} {v : V} : Nw H0 (.tup xs) v H1 → Tp K xs v H1 := fun ⟨p, a, _, c⟩ => ⟨p, a, st_of c⟩
theorem nw_l {H0 H1 : Hp} {xs : List V} {v : V} : Nw H0 (.lst xs) v H1 → Ls K xs v H1 := fun ⟨p, a, _, c⟩ => ⟨p, a, sq_of c⟩
theorem x_tupT {ta : TA} {vs : List V} (h : EvA ta σ H vs) (hl : vs.length ≤ 100000 := by exact Nat.le_of_ble_eq_true rfl) : EvX (tTup ta) σ H (Tp K vs) := (x_tup h hl).imp nw_tp
theorem x_tupM {ta : TA} {vs : List V} (h : EvA ta σ H vs) (hl : vs.length ≤ 100000) : EvX (tTup ta) σ H (Tp K vs) := (x_tup h hl).imp nw_tp
theorem ax_nil : EvXA tNil σ H (fun vs _ => vs = []) := fun H1 _ Q q => q [] H1 (Ex.refl H1) rfl
theorem ax_cons {tr : TA} {PA : List V → Hp → Prop} [Mono P] (h : EvX te σ H P) (hr : EvXA tr σ H PA) : EvXA (tCons te tr) σ H (fun vs H2 => ∃ v r, vs = v :: r ∧ P v H2 ∧ PA r H2) := fun H1 e Q q =>
  h H1 e _ fun v H2 e2 hv => hr H2 (e.trans e2) _ fun r H3 e3 hr' => q _ H3 (e2.trans e3) ⟨v, r, rfl, Mono.mono e3 hv, hr'⟩
theorem x_call {sp : Sp} {dvs : List V} {E : XK} {ta : TA} {PA : List V → Hp → Prop} (h : EvXA ta σ H PA) (hs : ∀ vs H1, Ex H H1 → PA vs H1 → SpX sp (vs ++ dvs) H1 P) : EvX (tCall sp dvs E ta) σ H P := fun H1 e Q q =>
  h H1 e _ fun vs H2 e2 hv => hs vs H2 (e.trans e2) hv H2 (Ex.refl H2) Q E fun v H3 e3 hp => q v H3 (e2.trans e3) hp
theorem x_if {b : Bool} (h : EvT t σ H b) (h1 : b = true → EvX ta σ H P) (h2 : b = false → EvX tb σ H P) : EvX (tIf t ta tb) σ H P := fun H1 e Q q => h H1 e _ fun H2 e2 => by
  cases b with
  | true => exact h1 rfl H2 (e.trans e2) Q fun v H3 e3 hv => q v H3 (e2.trans e3) hv
  | false => exact h2 rfl H2 (e.trans e2) Q fun v H3 e3 hv => q v H3 (e2.trans e3) hv
theorem ev_ifI {b : Bool} {i j : Int} (h : EvT t σ H b) (h1 : Ev ta σ H (.int i)) (h2 : Ev tb σ H (.int j)) : Ev (tIf t ta tb) σ H (.int (if b = true then i else j)) :=
  ev_if h (fun e => by rw [if_pos e]; exact h1) (fun e => by rw [if_neg (by rw [e]; exact Bool.false_ne_true)]; exact h2)
variable {D : Ends} {tu tw tz : TS}
theorem qx_asg {i : Nat} (h : EvX te σ H P) (k : ∀ v H1, Ex H H1 → P v H1 → tz D (σ.set i (some v)) H1) : tSeq (tAsg te (gName i)) tz D σ H := h H (Ex.refl H) _ fun v H1 e hp => k v H1 e hp
theorem sx_asg {i : Nat} (h : EvX te σ H P) (k : ∀ v H1, Ex H H1 → P v H1 → D.nx (σ.set i (some v)) H1) : tAsg te (gName i) D σ H := h H (Ex.refl H) _ fun v H1 e hp => k v H1 e hp
theorem sx_ret (h : EvX te σ H P) (k : ∀ v H1, Ex H H1 → P v H1 → D.rt v H1) : tRet te D σ H := h H (Ex.refl H) _ fun v H1 e hp => k v H1 e hp
end
section
variable {K : PySem.W.Frag} {σ : L2.St} {H H' : Hp} {ta tb te tx : TE} {t u : TT} {x y z v : V} {P P' R : VP}
theorem x_call1 {sp : Sp} {E : XK} {P1 : VP} (h1 : EvX ta σ H P1) (hs : ∀ v1 H1, Ex H H1 → P1 v1 H1 → SpX sp [v1] H1 P) : EvX (tCall sp [] E (tCons ta tNil)) σ H P := fun H1 e Q q =>
  h1 H1 e _ fun v1 H2 e2 p1 => hs v1 H2 (e.trans e2) p1 H2 (Ex.refl H2) Q E fun v H3 e3 hp => q v H3 (e2.trans e3) hp
theorem x_call2 {sp : Sp} {E : XK} {P1 P2 : VP} [Mono P1] (h1 : EvX ta σ H P1) (h2 : EvX tb σ H P2) (hs : ∀ v1 v2 H1, Ex H H1 → P1 v1 H1 → P2 v2 H1 → SpX sp [v1, v2] H1 P) : EvX (tCall sp [] E (tCons ta (tCons tb tNil))) σ H P := fun H1 e Q q =>
  h1 H1 e _ fun v1 H2 e2 p1 => h2 H2 (e.trans e2) _ fun v2 H3 e3 p2 => hs v1 v2 H3 ((e.trans e2).trans e3) (Mono.mono e3 p1) p2 H3 (Ex.refl H3) Q E fun v H4 e4 hp => q v H4 ((e2.trans e3).trans e4) hp
theorem x_varT {i : Nat} {p : Addr} {xs : List V} (h : σ[i]? = some (some (.ref p))) (hq : SqT K H p xs) : EvX (tVar i) σ H (Tp K xs) := x_is (ev_var h) fun _ e => ⟨p, rfl, ex_t e hq⟩
theorem x_varL {i : Nat} {p : Addr} {xs : List V} (h : σ[i]? = some (some (.ref p))) (hq : SqL K H p xs) : EvX (tVar i) σ H (Ls K xs) := x_is (ev_var h) fun _ e => ⟨p, rfl, ex_l e hq⟩
theorem ev_lenT {p : Addr} {xs : List V} (ha : Ev ta σ H (.ref p)) (h : SqT K H p xs) : Ev (tCB (rLenS K) (tCons ta tNil)) σ H (.int (xs.length : Int)) := fun H1 e Q q =>
  ha H1 e _ fun H2 e2 => ⟨p, xs, rfl, Or.inr (ex_t (e.trans e2) h), q H2 e2⟩
def rMin2 : List V → Hp → VK → Prop := fun xs H Q => ∃ i j, xs = [.int i, .int j] ∧ Q (.int (if j < i then j else i)) H
theorem ev_min2 {i j : Int} (ha : Ev ta σ H (.int i)) (hb : Ev tb σ H (.int j)) : Ev (tCB rMin2 (tCons ta (tCons tb tNil))) σ H (.int (if j < i then j else i)) := fun H1 e Q q =>
  ha H1 e _ fun H2 e2 => hb H2 (e.trans e2) _ fun H3 e3 => ⟨i, j, rfl, q H3 (e2.trans e3)⟩
/-- isinstance(x, T) -/
theorem ev_isi {a T : String} {b : Bool} (h : Ev tx σ H x) (hty : ∀ H1, Ex H H1 → TyX K H1 x (.type a)) (hb : kitB a T = some b) : Ev (tCB (rIsi K) (tCons tx (tCons (tC (.ty T)) tNil))) σ H (.bl b) := fun H1 e Q q =>
  h H1 e _ fun H2 e2 => ⟨x, .ty T, .type a, .type T, b, rfl, .ty T, hty H2 (e.trans e2), kit_ty hb, q H2 e2⟩
theorem tyx_tup {H : Hp} {p : Addr} {xs : List V} (h : SqT K H p xs) : TyX K H (.ref p) (.type "tuple") := by
  rcases h with (h | ⟨o, h⟩) | ⟨o, its, n, h1, h2, _⟩
  · exact .base (.tup h)
  · exact .fTuple h
  · exact .kTuple h1 h2
theorem tyx_lst {H : Hp} {p : Addr} {xs : List V} (h : SqL K H p xs) : TyX K H (.ref p) (.type "list") := by
  rcases h with (h | ⟨o, h⟩) | ⟨o, its, n, h1, h2, _⟩
  · exact .base (.lst h)
  · exact .base (.frz h)
  · exact .kList h1 h2
end
section
variable {K : PySem.W.Frag} {H : Hp} {x : V}
theorem rc_lenT {p : Addr} {xs : List V} (h : SqT K H p xs) : RC (rLenS K) [.ref p] H (.int (xs.length : Int)) := fun H1 e _ q => ⟨p, xs, rfl, Or.inr (ex_t e h), q H1 (Ex.refl H1)⟩
theorem rc_lenL {p : Addr} {xs : List V} (h : SqL K H p xs) : RC (rLenS K) [.ref p] H (.int (xs.length : Int)) := fun H1 e _ q => ⟨p, xs, rfl, Or.inl (ex_l e h), q H1 (Ex.refl H1)⟩
def rLenStr : List V → Hp → VK → Prop := fun xs H Q => ∃ z : Str, xs = [.str z] ∧ z.length ≤ sizeLine ∧ Q (.int z.length) H
theorem rc_lenStr {z : Str} (h : z.length ≤ 100000) : RC rLenStr [.str z] H (.int (z.length : Int)) := fun H1 _ _ q => ⟨z, rfl, sz_of h, q H1 (Ex.refl H1)⟩
theorem rc_max2 {i j : Int} : RC rMax2 [.int i, .int j] H (.int (if j > i then j else i)) := fun H1 _ _ q => ⟨i, j, rfl, q H1 (Ex.refl H1)⟩
theorem rc_min2 {i j : Int} : RC rMin2 [.int i, .int j] H (.int (if j < i then j else i)) := fun H1 _ _ q => ⟨i, j, rfl, q H1 (Ex.refl H1)⟩
theorem rc_isi {a T : String} {b : Bool} (hty : ∀ H1, Ex H H1 → TyX K H1 x (.type a)) (hb : kitB a T = some b) : RC (rIsi K) [x, .ty T] H (.bl b) := fun H1 e _ q =>
  ⟨x, .ty T, .type a, .type T, b, rfl, .ty T, hty H1 e, kit_ty hb, q H1 (Ex.refl H1)⟩
end
/-- what stands where a def's name points -/
structure Has (K : PySem.W.Frag) (mg : Str → Option Value) (x : Str) (st : Stmt) (ps : List Str) (f : Addr) (fd : FuncData) : Prop where
  m : mg x = some (.ref f)
  F : Fun K x x st f fd
  b : Binds K fd ps []
def tupInts (o : Obj) (ns : List Int) : Bool := match o.cls, o.data with
  | .type "tuple", .seq its _ => decide (its.size ≤ 1000) && decide (its.toList.map absV = ns.map fun i => some (V.int i))
  | _, _ => false
theorem absV_inv {v : V} {u : Value} (h : absV u = some v) : RelV v u := by
  cases u <;> simp only [absV] at h <;> first | (cases h; done) | (injection h with h; subst h; first | exact rfl | exact ⟨_, rfl⟩)
theorem vals_abs : ∀ {us : List Value} {xs : List V}, us.map absV = xs.map some → Vals xs us
  | [], [], _ => .nil
  | [], _ :: _, h => by cases h
  | _ :: _, [], h => by cases h
  | u :: us, x :: xs, h => by
    rw [List.map_cons, List.map_cons, List.cons.injEq] at h
    exact .cons (absV_inv h.1) (vals_abs h.2)
theorem sqT_written {K : PySem.W.Frag} {H : Hp} {a : Addr} {o : Obj} {ns : List Int} (h : K.lookup a = some o) (t : tupInts o ns = true) : SqT K H a (ns.map V.int) := by
  obtain ⟨cl, dd, dt, sl⟩ := o
  unfold tupInts at t
  split at t
  · rename_i its n e1 e2
    rw [Bool.and_eq_true] at t
    have h1 := of_decide_eq_true t.1
    have h2 := of_decide_eq_true t.2
    refine .inr ⟨_, its, n, h, e1, e2, Nat.le_trans h1 (by decide), vals_abs ?_⟩
    rw [h2, List.map_map]
    rfl
  · cases t
/-! ### steps of my own -/
local macro_rules | `(tactic| walk_at "ex") => `(tactic| first | assumption | exact Ex.refl _ | (apply Ex.trans; rotate_left; assumption; walk_at "ex"))
local macro_rules | `(tactic| walk_at "sv") => `(tactic| assumption)
local macro_rules | `(tactic| walk_at "sq") => `(tactic| first | assumption | (apply ex_t; rotate_left; assumption; walk_at "ex") | (apply ex_l; rotate_left; assumption; walk_at "ex") | (refine st_of ?_; assumption) | (refine sq_of ?_; assumption))
local macro_rules | `(tactic| walk_at "ty") => `(tactic| first | exact fun _ _ => .base (.int _) | exact fun _ _ => .base (.bl _) | exact fun _ _ => .base (.str _) | exact fun _ _ => .base .non | exact fun _ ez => tyx_tup (ex_t ez (by walk_at "sq")) | exact fun _ ez => tyx_lst (ex_l ez (by walk_at "sq")))
local macro_rules | `(tactic| walk_at "pos") => `(tactic| first | (show (0 : Int) < _; decide) | exact ⟨by decide, by decide⟩ | exact ⟨by decide, by decide, by decide⟩ | (show (0 : Int) < _; omega) | (refine ⟨?_, ?_⟩ <;> omega) | (refine Or.inl ⟨?_, ?_⟩ <;> omega) | (refine Or.inr ⟨?_, ?_⟩ <;> omega) | (show (0 : Int) < _; decide +kernel))
local macro_rules | `(tactic| walk_at "rv") => `(tactic| first
  | with_reducible exact rv_I0
  | ((with_reducible apply rv_I); walk_at "pos")
  | ((with_reducible apply rv_eq); exact rfl)
  | ((with_reducible apply rv_ne); exact rfl)
  | ((with_reducible apply rv_ixT); (focus (walk_at "sq")); exact rfl)
  | ((with_reducible apply rv_ixL); (focus (walk_at "sq")); exact rfl))
local macro_rules | `(tactic| walk_at "rc") => `(tactic| first
  | ((with_reducible apply rc_isi (b := true)); (focus (walk_at "ty")); decide +kernel)
  | ((with_reducible apply rc_isi (b := false)); (focus (walk_at "ty")); decide +kernel)
  | (apply rc_lenT; walk_at "sq")
  | (apply rc_lenL; walk_at "sq")
  | exact rc_max2
  | exact rc_min2)
local macro_rules | `(tactic| walk_at "ev") => `(tactic| first
  | ((with_reducible apply ev_var); exact rfl)
  | with_reducible exact ev_c
  | with_reducible exact ea_nil
  | ((with_reducible apply ea_cons) <;> walk_at "ev")
  | ((with_reducible apply ev_op); (focus (walk_at "ev")); (focus (walk_at "ev")); walk_at "rv")
  | ((with_reducible apply ev_cb); (focus (walk_at "ev")); walk_at "rc")
  | ((with_reducible apply et_test); walk_at "ev")
  | ((with_reducible apply et_B); walk_at "ev")
  | ((with_reducible apply et_not); walk_at "ev")
  | ((with_reducible apply ev_notV); walk_at "ev")
  | ((with_reducible apply ev_ifI) <;> walk_at "ev")
  | ((with_reducible apply et_or); (focus (walk_at "ev")); (intro _; walk_at "ev"))
  | ((with_reducible apply et_and); (focus (walk_at "ev")); (intro _; walk_at "ev"))
  | ((with_reducible apply ev_orV); (focus (walk_at "ev")); (intro _; walk_at "ev"))
  | ((with_reducible apply ev_andV); (focus (walk_at "ev")); (intro _; walk_at "ev"))
  | walk_at "xc")
local macro_rules | `(tactic| walk_at "xc") => `(tactic| ((with_reducible apply ev_call); (focus (walk_at "ev")); (focus (walk_at "sv"))))
local macro_rules | `(tactic| walk_at "xv") => `(tactic| first
  | assumption
  | ((with_reducible apply x_tupM); (focus (walk_at "ev")); exact Nat.le_of_ble_eq_true rfl)
  | ((with_reducible apply x_varT); (focus (exact rfl)); walk_at "sq")
  | ((with_reducible apply x_varL); (focus (exact rfl)); walk_at "sq")
  | ((with_reducible apply x_ev); walk_at "ev"))

/-! ### texts by their signs -/
def sg (c : Nat) : Str := ⟨#[c]⟩
def ofL (cs : List Nat) : Str := ⟨cs.toArray⟩
theorem str_ext {a b : Str} (h : a.cps.toList = b.cps.toList) : a = b := by
  cases a; cases b
  congr 1
  exact Array.toList_inj.mp h
theorem ofL_len (cs : List Nat) : (ofL cs).length = cs.length := by show cs.toArray.size = _; simp
theorem ofL_tl (cs : List Nat) : (ofL cs).cps.toList = cs := rfl
theorem ofL_app (a b : List Nat) : ofL a ++ ofL b = ofL (a ++ b) := str_ext (by
  show (a.toArray ++ b.toArray).toList = (a ++ b)
  simp)
theorem ofL_eta (z : Str) : ofL z.cps.toList = z := str_ext rfl
theorem joinL_nil : ∀ ps : List (List Nat), TL.joinL [] ps = ps.flatten
  | [] => rfl
  | [p] => by simp [TL.joinL]
  | p :: q :: r => by
    show p ++ ([] ++ TL.joinL [] (q :: r)) = _
    rw [joinL_nil (q :: r)]
    simp
theorem join_sg (cs : List Nat) : Txt.join (Str.ofString "") (cs.map sg) = ofL cs := by
  rw [TL.join_eq]
  refine str_ext ?_
  show TL.tl (Str.join _ _) = cs
  rw [TL.tl_join]
  have e : TL.tl (Str.ofString "") = [] := by rw [TL.tl_ofString]; rfl
  rw [e, joinL_nil, List.map_map]
  have e2 : (TL.tl ∘ sg) = fun c => [c] := rfl
  rw [e2]
  induction cs with
  | nil => rfl
  | cons c r ih => simp [ih]
theorem sg_len (cs : List Nat) : ((cs.map sg).map (·.length)).sum = cs.length := by
  induction cs with
  | nil => rfl
  | cons c r ih =>
    rw [List.map_cons, List.map_cons, List.sum_cons, ih]
    show 1 + r.length = r.length + 1
    omega
theorem atI_of {α : Type} {xs : List α} {i : Int} {v : α} (h0 : 0 ≤ i) (h : xs[i.toNat]? = some v) : atI xs i = some v := by
  have e0 : ((i.toNat : Nat) : Int) = i := by omega
  rw [← e0]
  exact atI_nat h
theorem atI_in {xs : List Nat} {i : Int} (h0 : 0 ≤ i) (h1 : i < (xs.length : Int)) : atI xs i = some (xs[i.toNat]?.getD 0) := by
  have e0 : ((i.toNat : Nat) : Int) = i := by omega
  have hlt : i.toNat < xs.length := by omega
  rw [← e0]
  refine atI_nat ?_
  rw [e0, List.getElem?_eq_getElem hlt]
  rfl
section
variable {K : PySem.W.Frag} {σ : L2.St} {H H' : Hp} {ta tb tc te tl' to : TE} {x y z w : V} {r r' : R2}
theorem ev_chain {b1 b2 : Bool} (ha : Ev ta σ H x) (hb : Ev tb σ H y) (h1 : RV r x y H (.bl b1)) (hc : b1 = true → Ev tc σ H w) (h2 : b1 = true → RV r' y w H (.bl b2)) : Ev (tChain r r' ta tb tc) σ H (.bl (b1 && b2)) := fun H1 e Q q =>
  ha H1 e _ fun H2 e2 => hb H2 (e.trans e2) _ fun H3 e3 => h1 H3 ((e.trans e2).trans e3) _ fun H4 e4 => ⟨b1, rfl, by
    cases b1 with
    | true =>
      show tc σ H4 _
      exact hc rfl H4 (((e.trans e2).trans e3).trans e4) _ fun H5 e5 => h2 rfl H5 ((((e.trans e2).trans e3).trans e4).trans e5) Q fun H6 e6 => q H6 ((((e2.trans e3).trans e4).trans e5).trans e6)
    | false =>
      show Q (.bl false) H4
      exact q H4 ((e2.trans e3).trans e4)⟩
def rLeStr : R2 := fun x y H Q => ∃ i j, x = .str i ∧ y = .str j ∧ Q (.bl (!decide (j.cps.toList < i.cps.toList))) H
def rNotInS' : R2 := fun x y H Q => ∃ (c : Nat) (z : Str), x = .str ⟨#[c]⟩ ∧ y = .str z ∧ Q (.bl (!decide (c ∈ z.cps.toList))) H
def rAddStr : R2 := fun x y H Q => ∃ i j, x = .str i ∧ y = .str j ∧ i.length + j.length ≤ sizeLine ∧ Q (.str (i ++ j)) H
theorem rv_leStr {i j : Str} : RV rLeStr (.str i) (.str j) H (.bl (!decide (j.cps.toList < i.cps.toList))) := fun H1 _ _ q => ⟨i, j, rfl, rfl, q H1 (Ex.refl H1)⟩
theorem rv_notInS {c : Nat} {z : Str} : RV rNotInS' (.str ⟨#[c]⟩) (.str z) H (.bl (!decide (c ∈ z.cps.toList))) := fun H1 _ _ q => ⟨c, z, rfl, rfl, q H1 (Ex.refl H1)⟩
theorem rv_addStr {i j : Str} (h : i.length + j.length ≤ 100000) : RV rAddStr (.str i) (.str j) H (.str (i ++ j)) := fun H1 _ _ q => ⟨i, j, rfl, rfl, sz_of h, q H1 (Ex.refl H1)⟩
theorem rv_isB {a b : Bool} : RV rIsB (.bl a) (.bl b) H (.bl (decide (a = b))) := fun H1 _ _ q => ⟨a, b, rfl, rfl, q H1 (Ex.refl H1)⟩
theorem rv_notB {a b : Bool} : RV rNotB (.bl a) (.bl b) H (.bl (!decide (a = b))) := fun H1 _ _ q => ⟨a, b, rfl, rfl, q H1 (Ex.refl H1)⟩
theorem et_yes : EvT tYes σ H true := fun H1 _ _ q => q H1 (Ex.refl H1)
/-- sep.join(xs) -/
def rJoin (K : PySem.W.Frag) : V → List V → Hp → VK → Prop := fun x xs H Q => ∃ a p, ∃ ys : List Str, x = .str a ∧ xs = [.ref p] ∧ (SqL K H p (ys.map V.str) ∨ SqT K H p (ys.map V.str)) ∧
      (ys.map (·.length)).sum + ys.length * a.length ≤ 16777216 ∧ Q (.str (Txt.join a ys)) H
theorem x_join {cs : List Nat} (h1 : Ev to σ H (.str (Str.ofString ""))) (h2 : EvX te σ H (Ls K ((cs.map sg).map V.str))) (hl : cs.length ≤ 100000) : Ev (tM1 (rJoin K) to te) σ H (.str (ofL cs)) := fun H1 e Q q =>
  h1 H1 e _ fun H2 e2 => ⟨⟨_, rfl⟩, h2 H2 (e.trans e2) _ fun v H3 e3 ⟨p, hv, hp⟩ => ⟨_, p, cs.map sg, rfl, by rw [hv], .inl hp, by
    have l0 : (Str.ofString "").length = 0 := rfl
    rw [sg_len, l0]
    omega, by
    rw [join_sg]
    exact q H3 (e2.trans e3)⟩⟩
/-- a walk over a text's signs -/
theorem q_forStr {D : Ends} {tu tz : TS} {z : Str} {j : Nat} (h : Ev te σ H (.str z)) (Pv : Nat → L2.St → Hp → Prop) (h0 : ∀ H1, Ex H H1 → Pv 0 σ H1)
    (hs : ∀ i c σ' H', z.cps.toList[i]? = some c → Pv i σ' H' → tu { D with nx := Pv (i + 1), ct := Pv (i + 1), bk := tz D } (σ'.set j (some (.str ⟨#[c]⟩))) H') (hd : ∀ σ' H', Pv z.cps.toList.length σ' H' → tz D σ' H') :
    tSeq (tFor (iStr te) (gName j) tu) tz D σ H := h H (Ex.refl H) _ fun H1 e => ⟨z, rfl, for_it (D := { D with nx := tz D }) (walk_str (z := z)) Pv (h0 H1 e) (fun _ _ _ _ _ => trivial) (fun i x σ' H' H'' hi p y => by
      obtain ⟨rfl, c, hc, rfl⟩ := y
      exact hs i c σ' _ (by rw [← hc]; simp) p) (fun σ' H' p => hd σ' H' (by simpa using p))⟩
/-- [e for c in s] -/
theorem el_lcS {z : Str} {tl : TE} {j : Nat} {vs : List Nat} (v : Nat → V) (h : Ev tl σ H (.str z)) (hz : z.cps.toList.length ≤ 40000) (hw : ∀ x, wipe ((wipe σ vs).set j (some x)) vs = wipe σ vs)
    (he : ∀ (i : Nat) (c : Nat) H1, Ex H H1 → z.cps.toList[i]? = some c → Ev te ((wipe σ vs).set j (some (.str ⟨#[c]⟩))) H1 (v c)) :
    EvL (tLc (iStr tl) (gName j) tYes te vs) σ H (z.cps.toList.map v) := fun H0 e Q q => h H0 e _ fun H1 e1 => ⟨z, rfl, fun Dl hD =>
  lc_it (walk_str (z := z)) (Cw H1 (fun _ => true) (fun i => v (z.cps.toList[i]?.getD 0)) Dl) ⟨hD, Ex.new hD, upd_same⟩ (fun _ _ _ _ => trivial) (fun i x H' H'' hi p y => by
      obtain ⟨rfl, c, hc, rfl⟩ := y
      have hc' : z.cps.toList[i]? = some c := by rw [← hc]; simp
      have hi' : i < z.cps.toList.length := by simpa using hi
      exact ⟨hw _, cw_turn p (by omega) et_yes (fun _ => by
        have := he i c H1 (e.trans e1) hc'
        rw [hc']
        exact this)⟩) (fun H' p => by
      refine q Dl H' (fresh_back e1 p.1) (e1.trans p.2.1) ?_
      rw [p.2.2]
      congr 2
      unfold given
      rw [List.filter_eq_self.mpr (fun _ _ => rfl)]
      refine List.ext_getElem? fun i => ?_
      rw [List.getElem?_map, List.getElem?_map]
      by_cases hi : i < z.cps.size
      · rw [List.getElem?_range hi]
        have hi' : i < z.cps.toList.length := by simpa using hi
        rw [List.getElem?_eq_getElem hi']
        simp [hi]
      · rw [List.getElem?_eq_none (by simp; omega), List.getElem?_eq_none (by simp; omega)]
        rfl)⟩
theorem given_all (n : Nat) (v : Nat → V) : given n (fun _ => true) v = (List.range n).map v := by
  unfold given
  rw [List.filter_eq_self.mpr (fun _ _ => rfl)]
end
local macro_rules | `(tactic| walk_at "len") => `(tactic| first | assumption | exact Nat.le_of_ble_eq_true rfl | omega | decide +kernel)
local macro_rules | `(tactic| walk_at "rv") => `(tactic| first | with_reducible exact rv_isB | with_reducible exact rv_notB | exact rv_leStr | exact rv_notInS | (apply rv_addStr; walk_at "len"))
local macro_rules | `(tactic| walk_at "rc") => `(tactic| (apply rc_lenStr; walk_at "len"))
local macro_rules | `(tactic| walk_at "xc") => `(tactic| ((with_reducible apply ev_chain); (focus (walk_at "ev")); (focus (walk_at "ev")); (focus (walk_at "rv")); (focus (intro _; walk_at "ev")); (intro _; walk_at "rv")))

section
variable {K : PySem.W.Frag} {σ : L2.St} {H H' : Hp} {ta tb tc te tl' to : TE} {x y z w v : V} {r r' : R2}
theorem x_all {bs : List Bool} (h : EvL te σ H (bs.map V.bl)) : Ev (tCB (rAll K) (tCons te tNil)) σ H (.bl (bs.all id)) := fun H1 e Q q =>
  h H1 e _ fun p H2 _ e2 h2 => ⟨p, bs, rfl, sq_of h2, q H2 e2⟩
theorem tyof_mono {t : Value} (e : Ex H H') (h : TyOf K H x t) : TyOf K H' x t := by
  cases h with
  | non => exact .non
  | bl b => exact .bl b
  | int i => exact .int i
  | str s => exact .str s
  | flt b => exact .flt b
  | lst h => exact .lst (e _ _ h)
  | frz h => exact .frz (e _ _ h)
  | tup h => exact .tup (e _ _ h)
  | dK h => exact .dK (e _ _ h)
  | dT h => exact .dT (e _ _ h)
  | ins h a b c d f => exact .ins (e _ _ h) a b c d f
theorem tyx_mono {t : Value} (e : Ex H H') (h : TyX K H x t) : TyX K H' x t := by
  cases h with
  | base h => exact .base (tyof_mono e h)
  | byt b => exact .byt b
  | set h => exact .set (e _ _ h)
  | kList h c => exact .kList h c
  | kTuple h c => exact .kTuple h c
  | kDict h c => exact .kDict h c
  | fTuple h => exact .fTuple (e _ _ h)
  | fDict h => exact .fDict (e _ _ h)
/-- all of as many values keep P -/
def AllP (P : VP) (n : Nat) : List V → Hp → Prop := fun vs H => vs.length = n ∧ ∀ v ∈ vs, P v H
theorem AllP.mono {P : VP} [Mono P] {n : Nat} {vs : List V} (e : Ex H H') (h : AllP P n vs H) : AllP P n vs H' := ⟨h.1, fun v hv => Mono.mono e (h.2 v hv)⟩
theorem axA_nil {P : VP} : EvXA tNil σ H (AllP P 0) := fun H1 _ Q q => q [] H1 (Ex.refl H1) ⟨rfl, fun _ h => by cases h⟩
theorem axA_cons {P : VP} [Mono P] {n : Nat} {tr : TA} (h : EvX te σ H P) (hr : EvXA tr σ H (AllP P n)) : EvXA (tCons te tr) σ H (AllP P (n + 1)) := fun H1 e Q q =>
  h H1 e _ fun v H2 e2 hv => hr H2 (e.trans e2) _ fun r H3 e3 hr' => q _ H3 (e2.trans e3) ⟨by rw [List.length_cons, hr'.1], fun u hu => by
    rcases List.mem_cons.mp hu with rfl | hu
    · exact Mono.mono e3 hv
    · exact hr'.2 u hu⟩
theorem x_lstA {P : VP} [Mono P] {n : Nat} {ta : TA} (h : EvXA ta σ H (AllP P n)) (hn : n ≤ 100000) : EvX (tLst ta) σ H (fun v H2 => ∃ p vs, v = .ref p ∧ H p = none ∧ H2 p = some (.lst vs) ∧ AllP P n vs H2) := fun H1 e Q q =>
  h H1 e _ fun vs H2 e2 hv => ⟨sz_of (by rw [hv.1]; exact hn), fun p hp => q _ _ (e2.trans (Ex.new hp)) ⟨p, vs, rfl, fresh_back e (fresh_back e2 hp), upd_same, hv.mono (Ex.new hp)⟩⟩
/-- {k: v}, one pair -/
theorem x_disp1 {tk tv : TE} {s : Str} {v : V} (hk : Ev tk σ H (.str s)) (hv : Ev tv σ H v) : EvX (tDisp [(tk, tv)]) σ H (Nw H (.dK [(.inr s, v)])) := fun H1 e Q q => fun p hp =>
  hk _ (e.trans (Ex.new hp)) _ fun H2 e2 => hv H2 ((e.trans (Ex.new hp)).trans e2) _ fun H3 e3 => ⟨e3 _ _ (e2 _ _ upd_same), [(.inr s, v)], rfl, Nat.le_of_ble_eq_true rfl, q _ _ (Ex.mut (((Ex.new hp).trans e2).trans e3) hp) ⟨p, rfl, fresh_back e hp, upd_same⟩⟩
end

theorem pg_tupK {X : Cx} {K : PySem.W.Frag} {es : List Expr} {pos : Pos} {k : Nat} {t : TGs} {n : Nat} (hK : X.K = K) (hc : X.calm = true) (h : PGs X es t) (hn : (assignEach es X.env).length = n) (hst : (assignEach es X.env).findIdx? (·.1) = none) : PG X (.Tuple es k pos) (gTup K n t) := by
  subst hK
  exact pg_tup hc h hn hst
section
variable {K : PySem.W.Frag} {σ : L2.St} {H H' : Hp} {te : TE}
theorem map_range_get {α β : Type} (xs : List α) (d : α) (v : α → β) : (List.range xs.length).map (fun i => v (xs[i]?.getD d)) = xs.map v := by
  refine List.ext_getElem? fun i => ?_
  rw [List.getElem?_map, List.getElem?_map]
  by_cases hi : i < xs.length
  · rw [List.getElem?_range hi, List.getElem?_eq_getElem hi]
    simp [hi]
  · rw [List.getElem?_eq_none (by simp; omega), List.getElem?_eq_none (by omega)]
    rfl
/-- [e for x in t], t a tuple -/
theorem el_lcT {a : Addr} {xs : List V} {tl : TE} {j : Nat} {vs : List Nat} (v : V → V) (h : Ev tl σ H (.ref a)) (hx : SqT K H a xs) (hz : xs.length ≤ 40000) (hw : ∀ x, wipe ((wipe σ vs).set j (some x)) vs = wipe σ vs)
    (he : ∀ (x : V) H1, Ex H H1 → x ∈ xs → Ev te ((wipe σ vs).set j (some x)) H1 (v x)) :
    EvL (tLc (iTup K tl) (gName j) tYes te vs) σ H (xs.map v) := fun H0 e Q q => h H0 e _ fun H1 e1 => ⟨a, rfl, ⟨xs, ex_t (e.trans e1) hx⟩, fun Dl hD =>
  lc_it (walk_tup (K := K) (a := a) (xs := xs)) (Cw H1 (fun _ => true) (fun i => v (xs[i]?.getD .non)) Dl) ⟨hD, Ex.new hD, upd_same⟩ (fun i H' hi p => ex_t ((e.trans e1).trans p.2.1) hx) (fun i x H' H'' hi p y => by
      obtain ⟨rfl, hc⟩ := y
      exact ⟨hw _, cw_turn p (by omega) et_yes (fun _ => by
        have := he x H1 (e.trans e1) (List.mem_of_getElem? hc)
        rw [hc]
        exact this)⟩) (fun H' p => by
      refine q Dl H' (fresh_back e1 p.1) (e1.trans p.2.1) ?_
      rw [p.2.2, given_all, map_range_get])⟩
end
/-! ### a dict that is walked: locked, then as before -/
section
variable {K : PySem.W.Frag} {H H' : Hp} {d : Addr} {od : Obj} {kvs : List (Key × V)}
theorem lock_t {q : Addr} {xs : List V} (hd : H d = some (.dK kvs)) (h : SqT K H q xs) : SqT K (upd H d (.frz od (.dK kvs))) q xs := by
  rcases h with (h | ⟨o, h⟩) | h
  · exact .inl (.inl (by rw [upd_ne (ne_of h hd (by intro z; cases z))]; exact h))
  · exact .inl (.inr ⟨o, by rw [upd_ne (ne_of h hd (by intro z; cases z))]; exact h⟩)
  · exact .inr h
theorem lock_ty {x : V} {t : Value} (hd : H d = some (.dK kvs)) (h : TyX K H x t) : TyX K (upd H d (.frz od (.dK kvs))) x t := by
  cases h with
  | base h =>
    cases h with
    | non => exact .base .non
    | bl b => exact .base (.bl b)
    | int i => exact .base (.int i)
    | str s => exact .base (.str s)
    | flt b => exact .base (.flt b)
    | lst h => exact .base (.lst (by rw [upd_ne (ne_of h hd (by intro z; cases z))]; exact h))
    | frz h => exact .base (.frz (by rw [upd_ne (ne_of h hd (by intro z; cases z))]; exact h))
    | tup h => exact .base (.tup (by rw [upd_ne (ne_of h hd (by intro z; cases z))]; exact h))
    | @dK a kvs' h =>
      by_cases e : a = d
      · subst e
        exact .fDict upd_same
      · exact .base (.dK (by rw [upd_ne e]; exact h))
    | dT h => exact .base (.dT (by rw [upd_ne (ne_of h hd (by intro z; cases z))]; exact h))
    | ins h a b c d f => exact .base (.ins (by rw [upd_ne (ne_of h hd (by intro z; cases z))]; exact h) a b c d f)
  | byt b => exact .byt b
  | set h => exact .set (by rw [upd_ne (ne_of h hd (by intro z; cases z))]; exact h)
  | kList h c => exact .kList h c
  | kTuple h c => exact .kTuple h c
  | kDict h c => exact .kDict h c
  | fTuple h => exact .fTuple (by rw [upd_ne (ne_of h hd (by intro z; cases z))]; exact h)
  | fDict h => exact .fDict (by rw [upd_ne (ne_of h hd (by intro z; cases z))]; exact h)
theorem unlock {u : HO} (hd : H d = some u) (e : Ex (upd H d (.frz od u)) H') : Ex H (upd H' d u) := fun a o h => by
  by_cases hq : a = d
  · subst hq
    rw [hd] at h
    rw [upd_same]
    exact h
  · rw [upd_ne hq]
    exact e a o (by rw [upd_ne hq]; exact h)
theorem lock_free {u : HO} {a : Addr} (hd : H d = some u) (e : Ex (upd H d (.frz od u)) H') (h : H' a = none) : H a = none := by
  have h1 := fresh_back e h
  by_cases hq : a = d
  · subst hq
    rw [upd_same] at h1
    cases h1
  · rw [upd_ne hq] at h1
    exact h1
end
section
variable {K : PySem.W.Frag} {σ : L2.St} {H H' : Hp} {te td : TE}
theorem ex_upd2 {d : Addr} {o : HO} (e : Ex H H') : Ex (upd H d o) (upd H' d o) := fun a u h => by
  by_cases hq : a = d
  · subst hq
    rw [upd_same] at h ⊢
    exact h
  · rw [upd_ne hq] at h ⊢
    exact e a u h
/-- [e for k, x in d.items()] -/
theorem el_lockItems {d : Addr} {kvs : List (Key × V)} {i j n : Nat} {vs : List Nat} (vals : List V) (hv : vals.length = kvs.length) (hd : H d = some (.dK kvs)) (h : ∀ H', Ev td σ H' (.ref d)) (hn : n = 2) (hz : kvs.length ≤ 30000)
    (hw : ∀ x y, wipe (((wipe σ vs).set i (some x)).set j (some y)) vs = wipe σ vs) (he : ∀ (m : Nat) (kv : Key × V) (u : V), kvs[m]? = some kv → vals[m]? = some u → ∀ od H1, Ex (upd H d (.frz od (.dK kvs))) H1 → Ev te (((wipe σ vs).set i (some (kV kv.1))).set j (some kv.2)) H1 u) :
    EvL (tLockE (tLc (iItems td) (gTup K n (gCons (gName i) (gCons (gName j) gNil))) tYes te vs)) σ H vals := fun H0 e Q q => by
  refine ⟨d, .dK kvs, e _ _ hd, trivial, fun od => ?_⟩
  refine h _ _ (Ex.refl _) _ fun H2 e2 => ?_
  have hd2 : H2 d = some (.frz od (.dK kvs)) := e2 d _ upd_same
  have e02 : Ex (upd H d (.frz od (.dK kvs))) H2 := (ex_upd2 e).trans e2
  refine ⟨d, od, kvs, rfl, hd2, fun Dl hD => ?_⟩
  refine lc_it (walk_items (d := d) (o := od) (kvs := kvs)) (Cw H2 (fun _ => true) (fun i => vals[i]?.getD .non) Dl) ⟨hD, Ex.new hD, upd_same⟩ (fun _ H' _ p => p.2.1 d _ hd2) (fun m x H' H'' hi p y => ?_) (fun H' p => ?_)
  · obtain ⟨T, a, b, rfl, hT, rfl, ha, hb⟩ := y
    have p' : Cw H2 (fun _ => true) (fun i => vals[i]?.getD .non) Dl m (upd H' T (.tup [a, b])) := ⟨p.1, p.2.1.trans (Ex.new hT), by rw [upd_ne (ne_of_none p.2.2 hT)]; exact p.2.2⟩
    have hkv : kvs[m]? = some kvs[m] := List.getElem?_eq_getElem hi
    have hi' : m < vals.length := by omega
    have hu : vals[m]? = some vals[m] := List.getElem?_eq_getElem hi'
    have ha' : a = kV kvs[m].1 := by
      have ha : Option.map (fun kv => kV kv.1) kvs[m]? = some a := ha
      rw [hkv] at ha
      exact (Option.some.inj ha).symm
    have hb' : b = kvs[m].2 := by
      have hb : Option.map Prod.snd kvs[m]? = some b := hb
      rw [hkv] at hb
      exact (Option.some.inj hb).symm
    refine ⟨T, [a, b], rfl, .inl (.inl upd_same), by rw [hn]; rfl, a, [b], rfl, b, [], rfl, rfl, hw a b, ?_⟩
    refine cw_turn p' (by omega) et_yes (fun _ => ?_)
    rw [hu, ha', hb']
    exact he m kvs[m] vals[m] hkv hu od H2 e02
  · have hne : Dl ≠ d := fun z => by
      rw [z, hd2] at hD
      cases hD
    refine ⟨p.2.1 d _ hd2, q Dl _ (lock_free (e _ _ hd) e2 hD) (unlock (e _ _ hd) (e2.trans p.2.1)) ?_⟩
    rw [upd_ne hne, p.2.2, given_all, ← hv, map_range_get vals .non (fun x => x), List.map_id']
end

/-! ### two tuples of two numbers, alike or not -/
section
variable {K : PySem.W.Frag} {H : Hp} {x y : V}
theorem rv_neD {d e : PyData} (h1 : ∀ H1, Ex H H1 → Dp K H1 x d) (h2 : ∀ H1, Ex H H1 → Dp K H1 y e) (s1 : SeqAt.shaped d = true) (s2 : SeqAt.shaped e = true) : RV (rNeD K) x y H (.bl (!PyData.eqv d e)) := fun H1 e _ q => ⟨_, _, h1 H1 e, h2 H1 e, s1, s2, q H1 (Ex.refl H1)⟩
theorem rv_eqD {d e : PyData} (h1 : ∀ H1, Ex H H1 → Dp K H1 x d) (h2 : ∀ H1, Ex H H1 → Dp K H1 y e) (s1 : SeqAt.shaped d = true) (s2 : SeqAt.shaped e = true) : RV (rEqD K) x y H (.bl (PyData.eqv d e)) := fun H1 e _ q => ⟨_, _, h1 H1 e, h2 H1 e, s1, s2, q H1 (Ex.refl H1)⟩
theorem dp_two {q : Addr} {a b : Int} (h : SqT K H q [.int a, .int b]) : Dp K H (.ref q) (.tuple [.int a, .int b]) := .tup h (.cons (.int a) (.cons (.int b) .nil))
theorem eqv_two (a b c d : Int) : PyData.eqv (.tuple [.int a, .int b]) (.tuple [.int c, .int d]) = (decide (a = c) && decide (b = d)) := by
  simp [PyData.eqv, PyData.eqvAll, Bool.beq_eq_decide_eq]
theorem shaped_two (a b : Int) : SeqAt.shaped (.tuple [.int a, .int b]) = true := by
  simp [SeqAt.shaped, PyData.canLay0, PyData.canLayAll0, PyData.depth, PyData.depthAll]
end

/-! ### sorted(d), the keys texts, any number of them -/
open PyProof.Rows in
def signsV : Value → List Nat
  | .str x _ => x.cps.toList
  | _ => []
def ltSg (v u : Value) : Bool := decide (signsV v < signsV u)
theorem swo_sg : SrtO.Swo ltSg := ⟨fun x y h => decide_eq_false fun h2 => List.lt_asymm (of_decide_eq_true (p := signsV x < signsV y) h) h2,
  fun x y z h1 h2 => by
    have a := of_decide_eq_false (p := signsV y < signsV x) h1
    have b := of_decide_eq_false (p := signsV z < signsV y) h2
    exact decide_eq_false (p := signsV z < signsV x) (List.le_trans (show signsV x ≤ signsV y from a) (show signsV y ≤ signsV z from b))⟩
section
variable {prog : Program} {w : World} {A : Around} {s : Shared}
theorem strs_each : ∀ {vs : List Value} {ss : List Str}, PyProof.Rows.StrsAre vs ss → ∀ v ∈ vs, ∃ x t, v = Value.str x t
  | _, _, .nil, v, h => absurd h List.not_mem_nil
  | _, _, .cons x t r, v, h => by
    rcases List.mem_cons.mp h with e | h
    · exact ⟨x, t, e⟩
    · exact strs_each r v h
theorem strs_of : ∀ {vs : List Value}, (∀ v ∈ vs, ∃ x t, v = Value.str x t) → PyProof.Rows.StrsAre vs (vs.map fun v => ofL (signsV v))
  | [], _ => .nil
  | v :: vs, h => by
    obtain ⟨x, t, e⟩ := h v List.mem_cons_self
    subst e
    have e2 : ofL (signsV (.str x t)) = x := ofL_eta x
    rw [List.map_cons, e2]
    exact .cons x t (strs_of fun u hu => h u (List.mem_cons_of_mem _ hu))
theorem of_strs : ∀ {vs : List Value} {ss : List Str}, PyProof.Rows.StrsAre vs ss → (vs.map fun v => ofL (signsV v)) = ss
  | _, _, .nil => rfl
  | _, _, .cons x t r => by
    rw [List.map_cons, of_strs r]
    congr 1
theorem sortable_sg {a : Addr} {vs : List Value} {ss : List Str} (hS : PyProof.Rows.StrsAre vs ss) (h2 : 2 ≤ vs.length) : SrtO.SortableO prog w A s a vs ltSg := by
  intro h' _
  refine ⟨PyProof.Rows.oneType', fun Q E hq => ?_, fun p q hp hq => ?_⟩
  · match vs, hS, h2 with
    | a :: b :: r, hS, _ =>
      rw [PyProof.Rows.keyKind_strs hS]
      exact wpAny_pure hq
    | [], _, h => exact absurd h (by decide)
    | [v], _, h => exact absurd h (by simp)
  · obtain ⟨x, t, e⟩ := strs_each hS _ hp
    obtain ⟨y, u, e'⟩ := strs_each hS _ hq
    show wpAny (model prog w) A (PyProof.Rows.keyLt' PyProof.Rows.oneType' p.1 q.1) (fun r s' => s' = _ ∧ r = ltSg p.1 q.1) (fun _ _ => False) _
    rw [e, e', PyProof.Rows.keyLt'_oneType]
    exact PyProof.Rows.oneLt_str ⟨rfl, rfl⟩
end
def rSortD : List V → Hp → VK → Prop := fun xs H Q => ∃ (a : Addr) (kvs : List (Key × V)) (ks : List Str), xs = [.ref a] ∧ Rd H a (.dK kvs) ∧ kvs.map (·.1) = ks.map Sum.inr ∧ ks.length ≤ 100000 ∧
  ∀ (ys : List Str) (p : Addr), ys.Perm ks → ys.Pairwise (fun x y => ¬ y.cps.toList < x.cps.toList) → H p = none → Q (.ref p) (upd H p (.lst (ys.map V.str)))
theorem pw_of {out : List Value} (h : SrtO.Srtd ltSg out) : (out.map fun v => ofL (signsV v)).Pairwise fun x y => ¬ y.cps.toList < x.cps.toList :=
  List.pairwise_map.mpr (h.imp fun {x y} g => of_decide_eq_false (p := signsV y < signsV x) g)
theorem gc_sortedD {X : Cx} (hcalm : X.calm = true) : CallR X (.builtin "sorted") rSortD := by
  intro pins s σ H xs us Q I r ⟨a, kvs, ks, ex, hd, hks, hlk, q⟩
  subst ex
  obtain ⟨u, rfl, rx⟩ := vals1 r
  cases (show u = Value.ref a from rx)
  obtain ⟨_, lo, vs, rel, dd⟩ := dk_rd I.hok hd
  obtain ⟨ep, hat⟩ := dd.dictAt
  have hkeys : vs.map Prod.fst = ks.map Sum.inr := (rel.keys.symm.trans hks)
  have hl : vs.length = ks.length := by simpa using congrArg List.length hkeys
  have hsz : vs.length ≤ sizeLine := sz_of (by rw [hl]; exact hlk)
  refine Calls.call_function_entry PyProof.Rows.kind_sorted PyProof.Rows.plain_sorted PyProof.Rows.entry_sorted (PyProof.Rows.args_sorted1 _) (?_ : wpAny _ _ (Builtin.«sorted» _) _ _ _)
  unfold Builtin.«sorted»
  refine wpAny_bind (m := checkCount "sorted" 1 1 _) (wpAny_pure (wpAny_bind (PySem.W.kdu_collect (A := X.A.in1) (PySem.W.kdl_dict (knd := mixKind X.prog X.w) (kvs := vs) (ep := ep) lo) (I.ok.hd hcalm) hat hsz fun h1 tk acc hk hacc => ?_)))
  have hal : acc.toList.length = ks.length := (by rw [Array.length_toList, hacc.1, hl])
  have hS : PyProof.Rows.StrsAre acc.toList ks := strs_at hal fun j v e => by
    obtain ⟨k, x, g1, g2⟩ := hacc.2 j v (by simpa using e)
    have g3 : (vs.map Prod.fst)[j]? = some k := by simp [g1]
    rw [hkeys, List.getElem?_map] at g3
    cases g4 : ks[j]? with
    | none => simp [g4] at g3
    | some y =>
      rw [g4] at g3
      obtain rfl : Sum.inr y = k := Option.some.inj g3
      obtain ⟨t, ev⟩ := Value.isStrOf_shape (x := y) (v := v) g2
      exact ⟨y, t, rfl, ev⟩
  have I1 : Inv X pins σ H { s with heap := h1, toks := tk } := I.kept hk
  have hz : acc.toList.length ≤ sizeLine := by rw [hal]; exact sz_of hlk
  refine wpAny_bind (wpAny_newList (?_ : wpAny _ _ _ _ _ { s with heap := h1.push (PyProof.Rows.seqObj "list" acc.toList.toArray 0), toks := tk }) (by rw [Array.length_toList] at hz; exact hz))
  have hoL : (h1.push (PyProof.Rows.seqObj "list" acc.toList.toArray 0)).get? h1.objs.size = some (PyProof.Rows.seqObj "list" acc.toList.toArray 0) := (Heap.get?_push_size _ rfl)
  refine wpAny_bind (wpAny_holding (wpAny_call_entry PyProof.Rows.slot_list_sort ⟨_, hoL, rfl⟩ PyProof.Rows.entry_list_sort (SrtO.list_sort_ord swo_sg hoL hz (fun h2 => sortable_sg hS h2) fun out o1 o2 => ⟨_, rfl, ?_⟩) (PyProof.Rows.args_list_sort _)))
  have hm : ∀ v ∈ out, ∃ x t, v = Value.str x t := fun v hv => strs_each hS v (o2.perm.mem_iff.mp hv)
  have hp : (out.map fun v => ofL (signsV v)).Perm ks := by
    have := o2.perm.map fun v => ofL (signsV v)
    rw [of_strs hS] at this
    exact this
  obtain ⟨e', he'⟩ := PyProof.Rows.sortedHeap_at (vs := acc.toList) (out := out.toArray) hoL
  refine wpAny_pure ⟨_, rfl, .ref h1.objs.size, upd H h1.objs.size (.lst ((out.map fun v => ofL (signsV v)).map V.str)), I1.laid (t' := tk) (fun b u e => ?_) (Nat.le_refl _) (show ObjOk X.prog X.w _ _ _ (.lst _) from ⟨by rw [List.length_map, hp.length_eq]; exact sz_of hlk, out, e', vals_of_strs (strs_of hm), he'⟩), rfl, q _ _ hp (pw_of o1) (I1.hok.fresh (Nat.le_refl _))⟩
  have hb := Heap.lt_size e
  have hb2 : b < (h1.push (PyProof.Rows.seqObj "list" acc.toList.toArray 0)).objs.size := by rw [PyProof.Rows.size_push']; exact Nat.lt_succ_of_lt hb
  exact (PyProof.Rows.sortedHeap_old (Nat.ne_of_lt hb) hb2).trans (Heap.get?_push_of_some _ e)

/-! ### dicts copied, alike, with one put in -/
section
theorem putK_len {kvs : List (Key × V)} {k : Key} {v : V} : (putK kvs k v).length ≤ kvs.length + 1 := by
  unfold putK
  split
  · rw [List.length_map]; omega
  · rw [List.length_append]; simp
theorem putK_nd {kvs : List (Key × V)} {k : Key} {v : V} (h : (kvs.map (·.1)).Nodup) : ((putK kvs k v).map (·.1)).Nodup := by
  cases e : valV kvs k with
  | none => exact nd_putK v h e
  | some u =>
    have he : (kvs.any fun kv => decide (kv.1 = k)) = true := by
      rw [valV_any, e]
      rfl
    unfold putK
    rw [if_pos he, List.map_map]
    have : ((fun x : Key × V => x.1) ∘ fun kv : Key × V => if kv.1 = k then (kv.1, v) else kv) = fun x => x.1 := by
      funext x
      show (if x.1 = k then (x.1, v) else x).1 = x.1
      split <;> rfl
    rw [this]
    exact h
theorem putK_full {kvs : List (Key × V)} {k : Key} {v : V} (h : (putK kvs k v).length = kvs.length + 1) : putK kvs k v = kvs ++ [(k, v)] := by
  unfold putK at h ⊢
  split
  · rename_i e
    rw [if_pos e, List.length_map] at h
    omega
  · rfl
end
section
variable {X : Cx}
/-- == and != of two dicts with the same pairs: values alike in place or plain -/
theorem hits_same {A : Around} {s : Shared} {kvs : List (Key × V)} {vb : List (Key × Value)} (rb : KV kvs vb) {ks : List (Key × V)} {va : List (Key × Value)} (ra : KV ks va) :
    (∀ p ∈ ks, valV kvs p.1 = some p.2 ∧ (flatB p.2 = true ∨ ∃ a, p.2 = .ref a)) → PySem.W.KeqHits A s vb va true := by
  unfold KV at ra
  induction ra with
  | nil => intro _; exact .nil
  | @cons p q ps qs h t ih =>
    intro hp
    obtain ⟨h1, h2⟩ := h
    obtain ⟨e, f⟩ := hp p List.mem_cons_self
    have rr : RelO (some p.2) (PySem.valueAt vb p.1) := by rw [← e]; exact rb.val p.1
    obtain ⟨y, hy, ry⟩ := rr.some_of
    obtain ⟨k, v⟩ := q
    have h1' : p.1 = k := h1
    rw [h1'] at hy
    show PySem.W.KeqHits A s vb ((k, v) :: qs) (true && true)
    refine .hit hy ?_ (ih fun p' hm => hp p' (List.mem_cons_of_mem _ hm))
    rcases f with f | ⟨a, f⟩
    · exact eqAt_same h2 ry f
    · rw [f] at h2 ry
      cases (show v = Value.ref a from h2)
      cases (show y = Value.ref a from ry)
      exact SeqAt.EqAt.same _
def rDictSame (r : Bool) : R2 := fun x y H Q => ∃ a b ks ls, x = .ref a ∧ y = .ref b ∧ H a = some (.dK ks) ∧ H b = some (.dK ls) ∧
  ((ks.length = ls.length ∧ (∀ p ∈ ks, valV ls p.1 = some p.2 ∧ (flatB p.2 = true ∨ ∃ a, p.2 = .ref a)) ∧ Q (.bl r) H) ∨ (ks.length ≠ ls.length ∧ Q (.bl (!r)) H))
theorem gc_ne_dict (hu : X.A.units < cLine) : OpR X (compareOp .NotEq) (rDictSame false) := by
  intro pins s σ H x y v u Q I rx ry h
  obtain ⟨a, b, ks, ls, rfl, rfl, ea, eb, h⟩ := h
  obtain rfl : v = Value.ref a := rx
  obtain rfl : u = Value.ref b := ry
  obtain ⟨_, ya, va, ra, da⟩ := (show ObjOk X.prog X.w H s.heap a (.dK ks) from I.hok a _ ea)
  obtain ⟨_, yb, vb, rb, db⟩ := (show ObjOk X.prog X.w H s.heap b (.dK ls) from I.hok b _ eb)
  have l1 := ra.length
  have l2 := rb.length
  rcases h with ⟨hlen, hp, q⟩ | ⟨hlen, q⟩
  · have hl : va.length = vb.length := by rw [← l1, ← l2]; exact hlen
    exact PySem.W.keq_ne (knd := mixKind X.prog X.w) (r := true) ya yb da db hu (fun _ => hits_same rb ra hp) (fin_bl I q (by simp [hl]))
  · have hl : va.length ≠ vb.length := by rw [← l1, ← l2]; exact hlen
    exact PySem.W.keq_ne (knd := mixKind X.prog X.w) (r := true) ya yb da db hu (fun z => absurd z hl) (fin_bl I q (by simp [hl]))
theorem gc_eq_dict (hu : X.A.units < cLine) : OpR X (compareOp .Eq) (rDictSame true) := by
  intro pins s σ H x y v u Q I rx ry h
  obtain ⟨a, b, ks, ls, rfl, rfl, ea, eb, h⟩ := h
  obtain rfl : v = Value.ref a := rx
  obtain rfl : u = Value.ref b := ry
  obtain ⟨_, ya, va, ra, da⟩ := (show ObjOk X.prog X.w H s.heap a (.dK ks) from I.hok a _ ea)
  obtain ⟨_, yb, vb, rb, db⟩ := (show ObjOk X.prog X.w H s.heap b (.dK ls) from I.hok b _ eb)
  have l1 := ra.length
  have l2 := rb.length
  rcases h with ⟨hlen, hp, q⟩ | ⟨hlen, q⟩
  · have hl : va.length = vb.length := by rw [← l1, ← l2]; exact hlen
    exact PySem.W.keq_eq (knd := mixKind X.prog X.w) (r := true) ya yb da db hu (fun _ => hits_same rb ra hp) (fin_bl I q (by simp [hl]))
  · have hl : va.length ≠ vb.length := by rw [← l1, ← l2]; exact hlen
    exact PySem.W.keq_eq (knd := mixKind X.prog X.w) (r := true) ya yb da db hu (fun z => absurd z hl) (fin_bl I q (by simp [hl]))
end
section
variable {K : PySem.W.Frag} {σ : L2.St} {H H' : Hp} {ta tb te td tk tv : TE} {x y v : V}
def rDictCopy : List V → Hp → VK → Prop := fun xs H Q => ∃ (a : Addr) (kvs : List (Key × V)), xs = [.ref a] ∧ Rd H a (.dK kvs) ∧ ∀ p, H p = none → Q (.ref p) (upd H p (.dK kvs))
theorem x_dcopy {a : Addr} {kvs : List (Key × V)} (h : Ev ta σ H (.ref a)) (hd : H a = some (.dK kvs)) : EvX (tCB rDictCopy (tCons ta tNil)) σ H (Nw H (.dK kvs)) := fun H1 e Q q =>
  h H1 e _ fun H2 e2 => ⟨a, kvs, rfl, .inl (e2 _ _ (e _ _ hd)), fun p hp => q _ _ (e2.trans (Ex.new hp)) ⟨p, rfl, fresh_back e (fresh_back e2 hp), upd_same⟩⟩
end
section
variable {K : PySem.W.Frag} {σ : L2.St} {H H' : Hp} {ta tb te td tk tv : TE} {x y v : V} {D : Ends} {tz : TS} {P P1 P2 : VP}
theorem x_tup2X [Mono P1] [Mono P2] (h1 : EvX ta σ H P1) (h2 : EvX tb σ H P2) : EvX (tTup (tCons ta (tCons tb tNil))) σ H (fun v H2 => ∃ p a b, v = .ref p ∧ H p = none ∧ H2 p = some (.tup [a, b]) ∧ P1 a H2 ∧ P2 b H2) := fun H1 e Q q =>
  h1 H1 e _ fun a H2 e2 ha => h2 H2 (e.trans e2) _ fun b H3 e3 hb => ⟨Nat.le_of_ble_eq_true rfl, fun p hp => q _ _ ((e2.trans e3).trans (Ex.new hp)) ⟨p, a, b, rfl, fresh_back e (fresh_back (e2.trans e3) hp), upd_same, Mono.mono (e3.trans (Ex.new hp)) ha, Mono.mono (Ex.new hp) hb⟩⟩
theorem qx_setL {l : Addr} {xs : List V} {j : Nat} (hl : H l = some (.lst xs)) (h : EvX te σ H P) (ho : Ev ta σ H (.ref l)) (hi : Ev tb σ H (.int (j : Int))) (hj : j < xs.length) (hm : ∀ v H1 H2, Ex H1 H2 → P v H1 → P v H2) (k : ∀ v H1, Ex H H1 → P v H1 → tz D σ (upd H1 l (.lst (xs.set j v)))) :
    tSeq (tAsg te (gSub ta tb rSetL)) tz D σ H := h H (Ex.refl H) _ fun v H1 e1 hv => ho H1 e1 _ fun H2 e2 => hi H2 (e1.trans e2) _ fun H3 e3 =>
  ⟨l, xs, (j : Int), j, rfl, rfl, ((e1.trans e2).trans e3) l _ hl, ixN_nat hj, k v H3 ((e1.trans e2).trans e3) (hm v H1 H3 (e2.trans e3) hv)⟩
theorem s_dput {d : Addr} {kvs : List (Key × V)} {k : Key} (hv : Ev tv σ H v) (hd : Ev td σ H (.ref d)) (hk : Ev tk σ H (kV k)) (h : H d = some (.dK kvs)) (hl : kvs.length < 100000) (c : ∀ H1, Ex H H1 → D.nx σ (upd H1 d (.dK (putK kvs k v)))) : sDPut td tk tv D σ H :=
  hv H (Ex.refl H) _ fun H1 e1 => hd H1 e1 _ fun H2 e2 => hk H2 (e1.trans e2) _ fun H3 e3 => ⟨d, _, rfl, DPut.k (((e1.trans e2).trans e3) _ _ h) (sz_lt hl), c H3 ((e1.trans e2).trans e3)⟩
theorem rv_neDict {a b : Addr} {ks ls : List (Key × V)} (h1 : H a = some (.dK ks)) (h2 : H b = some (.dK ls)) (hl : ks.length = ls.length) (hp : ∀ p ∈ ks, valV ls p.1 = some p.2 ∧ (flatB p.2 = true ∨ ∃ a, p.2 = .ref a)) : RV (rDictSame false) (.ref a) (.ref b) H (.bl false) := fun H1 e _ q =>
  ⟨a, b, ks, ls, rfl, rfl, e _ _ h1, e _ _ h2, .inl ⟨hl, hp, q H1 (Ex.refl H1)⟩⟩
end

/-! ### enumerate(d), d a dict that stays as it is -/
section
variable {prog : Program} {w : World} {A : Around} {E : Value → Shared → Prop} {s : Shared}
set_option maxHeartbeats 2000000 in
theorem enum_meets {v : Value} {ob : Obj} {G : Heap → Prop} (B : PySem.Begins v ob G) : PySem.Meets (Builtin.«enumerate.__new__» ⟨[.type "enumerate", v], []⟩) (fun _ R s => G s.heap ∧
      R (.ok (.ret (.ref (s.heap.push ob).objs.size))) { s with heap := (s.heap.push ob).push { cls := .type "enumerate", data := .fields #[.none, .bool false, .ref s.heap.objs.size, rawInt 0, .none, .none] } }) :=
  .of_wp fun prog w A R s hh => by
    obtain ⟨hp, gg, dd, tt, oo⟩ := s
    obtain ⟨hg, hR⟩ := hh
    have hsub := sub_enumerate
    have begin_ : ∀ {A' : Around} {E' : Value → Shared → Prop} {Q' : Value → Shared → Prop}, Q' (.ref hp.objs.size) ⟨hp.push ob, gg, dd, tt, oo⟩ → wpAny (model prog w) A' (pyIter v) Q' E' ⟨hp, gg, dd, tt, oo⟩ := fun q => B.iter prog w _ _ ⟨hp, gg, dd, tt, oo⟩ _ hg q
    wp_walk using begin_
    refine wpAny_stack_any fun st => (wpAny_pure ?_)
    split
    · rename_i cc _ _ _ _ _
      cases (cc == Value.type "enumerate") <;> (wp_walk using begin_; exact ⟨_, rfl, hR⟩)
    · wp_walk using begin_
      exact ⟨_, rfl, hR⟩
theorem enum_call {v : Value} {ob : Obj} {G : Heap → Prop} {Q : Value → Shared → Prop} (B : PySem.Begins v ob G) (hg : G s.heap)
    (k : ∀ h', IsEnum h' (s.heap.objs.size + 1) s.heap.objs.size 0 .none → h'.get? s.heap.objs.size = some ob → (∀ b o, s.heap.get? b = some o → h'.get? b = some o) → Q (.ref (s.heap.objs.size + 1)) { s with heap := h' }) :
    wpAny (model prog w) A (call (.type "enumerate") [v]) Q E s := by
  refine callType_new F.called_enumerate (by decide) (F.typeCall_enumerate_1 _) (F.newCall_enumerate_1 _) (fun obj => F.args_object_init_2 obj _) F.entry_enumerate_new (enum_meets B) ⟨hg, ?_⟩
  have size1 : (s.heap.push ob).objs.size = s.heap.objs.size + 1 := (Heap.size_push ..)
  show _ ∧ _
  rw [size1]
  have isE : IsEnum ((s.heap.push ob).push { cls := .type "enumerate", data := .fields #[.none, .bool false, .ref s.heap.objs.size, rawInt 0, .none, .none] }) (s.heap.objs.size + 1) s.heap.objs.size 0 .none := by
    have z := Heap.get?_push_size (s.heap.push ob) (o := { cls := .type "enumerate", data := .fields #[.none, .bool false, .ref s.heap.objs.size, rawInt 0, .none, .none] }) rfl
    rw [size1] at z
    exact z
  exact ⟨⟨_, isE, rfl⟩, k _ isE (Heap.get?_push_of_some _ (Heap.get?_push_size _ B.free)) fun b o e => Heap.get?_push_of_some _ (Heap.get?_push_of_some _ e)⟩
theorem begins_keys {d : Addr} {od : Obj} {es : Array DictEntry} {ep : Nat} (lo : (d == sysModules) = false) (hx : od.ExactDict) (hdt : od.data = .dict es ep) :
    PySem.Begins (.ref d) { cls := .type "dict_keyiterator", data := .fields #[.ref d, .int 0 0, .int es.size 0, .int ep 0] } (fun h => h.get? d = some od) where
  iter := fun prog w A E s Q hg hq => iter_keys lo hg hx hdt hq
  keeps := fun h h' hg hk => hk d od hg
  free := rfl
/-- next of the keys' iterator, as a built-in asks it -/
theorem keys_next {it d : Addr} {i n ep : Nat} {od : Obj} {es : Array DictEntry} {en : DictEntry} {Q : Value → Shared → Prop} (hit : s.heap.IsKeyIter it d i n ep) (hg : s.heap.get? d = some od) (hdt : od.data = .dict es ep)
    (hsz : es.size = n) (hx : es[i]? = some en) (k : ∀ h', h'.IsKeyIter it d (i + 1) n ep → Heap.SameBut it s.heap h' → Q en.key { s with heap := h' }) : wpAny (model prog w) A (Builtin.SmallTypes.nextOf (.ref it)) Q E s := by
  obtain ⟨oi, goi, clsi, dati⟩ := id hit
  unfold Builtin.SmallTypes.nextOf
  refine wpAny_bind (wpAny_callSpecial?_slot (name := Str.ofString "__next__") hit.typeIs F.slot_dict_keyiterator_next (wpAny_call_entry F.slot_dict_keyiterator_next hit.typeIs F.entry_dict_keyiterator_next ?_ (F.args_dict_keyiterator_next_1 _)))
  refine wpAny_bind (wpAny_pure (wpAny_bind (wpAny_bind ?_)))
  first | refine wpAny_bind (wpAny_typeNameOfWhole_keyiter hit.typeIs (wpAny_pure (wpAny_bind (wpAny_fieldsOf goi dati ?_)))) | refine wpAny_bind (wpAny_typeNameOf_keyiter hit.typeIs (wpAny_pure (wpAny_bind (wpAny_fieldsOf goi dati ?_))))
  have notOwn : Builtin.Dict_items.ownsTuple "dict_keyiterator" = false := (by decide)
  simp only [notOwn, Bool.false_eq_true, ite_false, if_false]
  show wpAny _ _ (if (Value.ref d == Value.none) = true then _ else (_ : Sem _)) _ _ s
  rw [if_neg (show ¬ ((Value.ref d == Value.none) = true) from (Bool.false_ne_true))]
  refine wpAny_bind (wpAny_pure (wpAny_bind (wpAny_dictEntries hg hdt ?_)))
  rw [if_neg (by rw [hsz]; simp)]
  refine wpAny_bind (wpAny_pure (wpAny_bind (wpAny_dictEpoch hg hdt ?_)))
  rw [if_neg (by simp)]
  obtain ⟨lt', en'⟩ := Array.getElem?_eq_some_iff.mp hx
  refine wpAny_pure ?_
  simp only [show ¬ ((i : Int) < 0) from (by omega), if_false, Int.toNat_natCast, Array.getElem?_eq_getElem lt']
  refine wpAny_bind ?_
  first | refine wpAny_bind (wpAny_typeNameOfWhole_keyiter hit.typeIs (wpAny_pure (wpAny_bind (wpAny_isOneOf_keyiter hit.typeIs ?_)))) | refine wpAny_bind (wpAny_typeNameOf_keyiter hit.typeIs (wpAny_pure (wpAny_bind (wpAny_isOneOf_keyiter hit.typeIs ?_))))
  show wpAny _ _ (setField (.ref it) 1 (rawInt ((i : Int) + 1)) >>= (_ : _ → Sem _)) _ _ s
  refine wpAny_bind (wpAny_setField goi dati (by simp) ?_)
  have it' : (s.heap.update it (Obj.mapFields (·.setIfInBounds 1 (rawInt ((i : Int) + 1))))).IsKeyIter it d (i + 1) n ep := ⟨_, Heap.get?_update_self _ goi (Obj.isFreed_of_fields (Obj.data_mapFields dati _)), (Obj.cls_mapFields ..).trans clsi, (by rw [Obj.data_mapFields dati]; simp [rawInt])⟩
  refine wpAny_bind (wpAny_holding (wpAny_bind (wpAny_isOneOf_keyiter (s := { s with heap := s.heap.update it (Obj.mapFields (·.setIfInBounds 1 (rawInt ((i : Int) + 1)))) }) it'.typeIs ?_)))
  show wpAny _ _ (pure es[i].key) _ _ _
  rw [en']
  exact wpAny_pure (wpAny_pure ⟨_, rfl, wpAny_pure (k _ it' (Heap.SameBut.update ..))⟩)
theorem keys_done {it d : Addr} {i n ep : Nat} {od : Obj} {es : Array DictEntry} {Q : Value → Shared → Prop} (hh : A.handled = none) (hit : s.heap.IsKeyIter it d i n ep) (hg : s.heap.get? d = some od) (hdt : od.data = .dict es ep)
    (hsz : es.size = n) (hge : n ≤ i) (k : ∀ h' e, Heap.ExtBut it s.heap h' → (∃ o, h'.get? e = some o ∧ o.cls = .type "StopIteration") → E (.ref e) { s with heap := h' }) : wpAny (model prog w) A (Builtin.SmallTypes.nextOf (.ref it)) Q E s := by
  obtain ⟨oi, goi, clsi, dati⟩ := id hit
  unfold Builtin.SmallTypes.nextOf
  refine wpAny_bind (wpAny_callSpecial?_slot (name := Str.ofString "__next__") hit.typeIs F.slot_dict_keyiterator_next (wpAny_call_entry F.slot_dict_keyiterator_next hit.typeIs F.entry_dict_keyiterator_next ?_ (F.args_dict_keyiterator_next_1 _)))
  refine wpAny_bind (wpAny_pure (wpAny_bind (wpAny_bind ?_)))
  first | refine wpAny_bind (wpAny_typeNameOfWhole_keyiter hit.typeIs (wpAny_pure (wpAny_bind (wpAny_fieldsOf goi dati ?_)))) | refine wpAny_bind (wpAny_typeNameOf_keyiter hit.typeIs (wpAny_pure (wpAny_bind (wpAny_fieldsOf goi dati ?_))))
  have notOwn : Builtin.Dict_items.ownsTuple "dict_keyiterator" = false := (by decide)
  simp only [notOwn, Bool.false_eq_true, ite_false, if_false]
  show wpAny _ _ (if (Value.ref d == Value.none) = true then _ else (_ : Sem _)) _ _ s
  rw [if_neg (show ¬ ((Value.ref d == Value.none) = true) from (Bool.false_ne_true))]
  refine wpAny_bind (wpAny_pure (wpAny_bind (wpAny_dictEntries hg hdt ?_)))
  rw [if_neg (by rw [hsz]; simp)]
  refine wpAny_bind (wpAny_pure (wpAny_bind (wpAny_dictEpoch hg hdt ?_)))
  rw [if_neg (by simp)]
  have ge' : es.size ≤ i := (by rw [hsz]; exact hge)
  refine wpAny_pure ?_
  simp only [show ¬ ((i : Int) < 0) from (by omega), if_false, Int.toNat_natCast, Array.getElem?_eq_none ge']
  refine wpAny_bind ?_
  first | refine wpAny_bind (wpAny_typeNameOfWhole_keyiter hit.typeIs (wpAny_pure (?_ : wpAny _ _ (setField (.ref it) 0 .none >>= _) _ _ s))) | refine wpAny_bind (wpAny_typeNameOf_keyiter hit.typeIs (wpAny_pure (?_ : wpAny _ _ (setField (.ref it) 0 .none >>= _) _ _ s)))
  refine wpAny_bind (wpAny_setField goi dati (by simp) (?_ : wpAny _ _ (newExc (.type "StopIteration") [] >>= _) _ _ _))
  refine wpAny_bind ?_
  simp only [newExc, newTuple]
  refine wpAny_bind (wpAny_newObj_type (wpAny_bind (m := firstArgMember _ _) (wpAny_of_eq (a := Value.none) (by first | rfl | (simp only [firstArgMember]; rfl)) (wpAny_newObj_type ?_ (by size_fits)))) (by size_fits))
  simp only [raiseNew]
  refine wpAny_bind (wpAny_handled ?_)
  first | rw [show A.in1.handled = none from hh] | rw [hh]
  exact wpAny_bind (wpAny_pure (wpAny_throw (k _ _ (((Heap.SameBut.update ..).extBut.push _).push _) ⟨_, Heap.get?_push_size _ rfl, rfl⟩)))
theorem draws_keys {P : Program} {w : World} {A : Around} (hh : A.handled = none) {it d : Addr} {od : Obj} {es : Array DictEntry} {ep n : Nat} (hne : d ≠ it) (hdt : od.data = .dict es ep) (hsz : es.size = n) :
    PySem.Draws P w A it [it, d] n (fun i v => ∃ en, es[i]? = some en ∧ v = en.key) (fun i h => h.IsKeyIter it d i n ep ∧ h.get? d = some od) where
  live := fun _ _ st => let ⟨o, ho, _⟩ := st.1; ⟨o, ho⟩
  frame := fun _ _ _ st hk => ⟨st.1.at fun o e => hk it (by simp) o e, hk d (by simp) od st.2⟩
  item := fun i s Q E hi st hQ => keys_next st.1 st.2 hdt hsz (Array.getElem?_eq_getElem (by omega)) fun h' hit' sb => hQ _ h' s.toks ⟨_, Array.getElem?_eq_getElem (by omega), rfl⟩ ⟨hit', (sb.2 d hne).trans st.2⟩ sb
  done := fun s Q E st hE => keys_done hh st.1 st.2 hdt hsz (Nat.le_refl _) hE
end
/-- the turns of enumerate over a locked dict: a new pair of the turn and the key -/
def ItED (d : Addr) (o : Obj) (kvs : List (Key × V)) : It :=
  ⟨fun i H => H d = some (.frz o (.dK kvs)) ∧ i < kvs.length, fun i H v H' => ∃ T k u, v = .ref T ∧ H T = none ∧ H' = upd H T (.tup [.int (i : Nat), kV k]) ∧ kvs[i]? = some (k, u), fun i H => H d = some (.frz o (.dK kvs)) ∧ kvs.length ≤ i⟩
theorem walk_enumD {d : Addr} {o : Obj} {kvs : List (Key × V)} : Walk (ItED d o kvs) kvs.length (fun H => H d = some (.frz o (.dK kvs))) (fun i H v H' => ∃ T k u, v = .ref T ∧ H T = none ∧ H' = upd H T (.tup [.int (i : Nat), kV k]) ∧ kvs[i]? = some (k, u)) :=
  ⟨fun _ _ hi q => ⟨q, hi⟩, fun _ q => ⟨q, Nat.le_refl _⟩, fun _ _ _ _ _ _ y => y⟩
theorem turn_enumD {P : Program} {w : World} {K : PySem.W.Frag} {elts : List Expr} {kk : Nat} {tpos : Pos} {d e it : Addr} {o : Obj} {es : Array DictEntry} {ep : Nat} {kvs : List (Key × V)} (hod : o.data = .dict es ep) (hei : e ≠ it) (hdi : d ≠ it) (hed : e ≠ d) :
    Turn P w K (.Tuple elts kk tpos) (ItED d o kvs) [e, it] e (fun i h => (∃ old, IsEnum h e it ((i : Nat) : Int) old) ∧ h.IsKeyIter it d i kvs.length ep) where
  mem := List.mem_cons_self
  obj := fun i h st b hb => by
    obtain ⟨⟨old, he⟩, ⟨oi, hoi, _, hdi⟩⟩ := st
    rcases List.mem_cons.mp hb with z | z
    · rw [z]
      exact ⟨_, he, fun v q => nomatch q⟩
    · rw [List.mem_singleton.mp z]
      exact ⟨oi, hoi, fun v q => by rw [hdi] at q; cases q⟩
  keep := fun i h h' st k => by
    obtain ⟨⟨old, he⟩, hi⟩ := st
    exact ⟨⟨old, k e List.mem_cons_self _ he⟩, hi.at fun oi q => k it (List.mem_cons_of_mem _ List.mem_cons_self) oi q⟩
  item := by
    intro X hP hw hK hc i pins s σ H E I hf st hg
    subst hP hw hK
    obtain ⟨⟨old, he⟩, hit⟩ := st
    obtain ⟨hd, hi⟩ := hg
    obtain ⟨_, hgd, hx, es', ep', vs, hdt, hsz, kv, o', es2, hgd2, _, hdt2, hkeys, hpairs, _⟩ := I.frzK hd
    obtain ⟨rfl, rfl⟩ := dict_ep hod hdt
    obtain rfl : o' = o := Option.some.inj (hgd2.symm.trans hgd)
    obtain ⟨rfl, _⟩ := dict_ep hdt hdt2
    obtain ⟨k, v, hkv⟩ : ∃ k v, kvs[i]? = some (k, v) := ⟨kvs[i].1, kvs[i].2, List.getElem?_eq_getElem hi⟩
    obtain ⟨u, hu, ru⟩ := kv_get kv hkv
    have hel : e < s.heap.objs.size := Heap.lt_size he
    have hil : it < s.heap.objs.size := by obtain ⟨_, q, _⟩ := id hit; exact Heap.lt_size q
    have D := draws_keys (P := X.prog) (w := X.w) (A := X.A.in1) (I.ok.hd hc) (n := kvs.length) hdi hod hsz
    have hef : e ∉ [it, d] := fun h => by
      rcases List.mem_cons.mp h with z | z
      · exact hei z
      · exact hed (List.mem_singleton.mp z)
    refine wpAny_pyNext_enum_itemC D he ⟨hit, hgd⟩ hi hei hef fun x h' tk hPx ho st' hT hsz' hk => ?_
    obtain ⟨en, hen, rfl⟩ := hPx
    have hkey : keyIs k en.key = true := (hpairs.get? (e := en) (by rw [Array.getElem?_toList]; exact hen) hu).1
    refine ⟨_, rfl, wpAny_letOwnedTupleGo_enum (s := { s with heap := h', toks := tk + 1 }) ho fun h2 he2 sb => ?_⟩
    have hT2 : h2.get? s.heap.objs.size = some { cls := .type "tuple", data := .seq #[.int i tk, en.key] } := ((sb.2 _ (Nat.ne_of_gt hel)).trans hT)
    have new : ObjOk X.prog X.w (upd H s.heap.objs.size (.tup [.int (i : Nat), kV k])) h2 s.heap.objs.size (.tup [.int (i : Nat), kV k]) := ⟨by show (2 : Nat) ≤ sizeLine; decide, [.int i tk, en.key], .cons ⟨_, rfl⟩ (.cons (relV_key hkey) .nil), ⟨_, hT2, rfl, _, rfl⟩⟩
    have I1 : Inv X pins σ (upd H s.heap.objs.size (.tup [.int (i : Nat), kV k])) { s with heap := h2, toks := tk + 1 } :=
      I.turnedNew (ch := [e, it]) (fun b ob hb q => (sb.2 b (fun z => hb (by rw [z]; exact List.mem_cons_self))).trans (hk b ob (fun z => hb (by rw [z]; exact List.mem_cons_self)) (fun z => hb (by rw [z]; exact List.mem_cons_of_mem _ List.mem_cons_self)) q)) hf (Nat.le_refl _) new
    refine ⟨.ref s.heap.objs.size, _, I1, rfl, ⟨_, k, v, rfl, I.hok.fresh (Nat.le_refl _), rfl, hkv⟩, ⟨⟨en.key, ?_⟩, st'.1.at fun oi q => (sb.2 it (Ne.symm hei)).trans q⟩, fun b hb => ?_⟩
    · rw [show ((i + 1 : Nat) : Int) = (i : Int) + 1 from by omega]
      exact he2
    · have hb' : b < s.heap.objs.size := by
        rcases List.mem_cons.mp hb with z | z
        · rw [z]; exact hel
        · rw [List.mem_singleton.mp z]; exact hil
      rw [upd_ne (Nat.ne_of_lt hb')]
      exact (hf b hb).1
  done := by
    intro X hP hw hK hc i pins s σ H E I hf st hg
    subst hP hw hK
    obtain ⟨⟨old, he⟩, hit⟩ := st
    obtain ⟨hd, hge⟩ := hg
    obtain ⟨_, hgd, hx, es', ep', vs, hdt, hsz', kv, _⟩ := I.frzK hd
    have hsz : es.size = kvs.length := by rw [← (dict_ep hod hdt).1]; exact hsz'
    obtain ⟨f0, f1, f2, f3, f4, f5⟩ := hf it (List.mem_cons_of_mem _ List.mem_cons_self)
    have D0 : PySem.Draws X.prog X.w X.A.in1 it [it, d] i (fun _ _ => False) (fun j h => j = i ∧ h.IsKeyIter it d i kvs.length ep ∧ h.get? d = some o) :=
      { live := fun _ _ st => let ⟨q, hq, _⟩ := st.2.1; ⟨q, hq⟩
        frame := fun _ _ _ st hk => ⟨st.1, st.2.1.at fun q e => hk it (by simp) q e, hk d (by simp) o st.2.2⟩
        item := fun j s Q E hj st _ => absurd st.1 (Nat.ne_of_lt hj)
        done := fun s Q E st hE => keys_done (I.ok.hd hc) st.2.1 st.2.2 hod hsz hge hE }
    exact wpAny_pyNext_enum_endD D0 he ⟨rfl, hit, hgd⟩ fun h' eb => ⟨rfl, I.turned (t' := s.toks) (fun b ob hb q => eb b ob hb q) f0 f1 f3 f4 f5⟩
  self := fun A i s Q E st h => let ⟨⟨_, he⟩, _⟩ := st; wpAny_pyIter_enum he h
/-- enumerate(d): the dict is locked -/
def iEnumD (ta : TA) : TI := fun σ H R => ta σ H fun vs H1 => ∃ d o kvs, vs = [.ref d] ∧ H1 d = some (.frz o (.dK kvs)) ∧ R (ItED d o kvs) H1
theorem pi_enumD {X : Cx} {e : Expr} {ta : TA} {p pos tpos : Pos} {elts : List Expr} {kk : Nat} (hg : Gl X "enumerate") (hm : X.mg "enumerate" = none) (ha : PA X [e] ta) (hs : starEach [e] X.env = [(false, eval e X.env)] := by rfl) :
    PI X (.Tuple elts kk tpos) (.Call (.Name "enumerate" p) [e] [] pos) (iEnumD ta) := by
  refine ⟨fun pins s σ H R I h => ?_⟩
  refine PyProof.Rows.Call_ (ld_blt I hg hm PyProof.Rows.boot_enumerate (PyProof.Rows.callWith_type1 (thn (ha.run pos pins s σ H _ I h) fun us s1 ⟨vs, H1, I1, r1, q1⟩ => ?_) hs rfl))
  obtain ⟨d, o, kvs, ex, hd, q⟩ := q1
  subst ex
  obtain ⟨u, rfl, ru⟩ := vals1 r1
  cases (show u = Value.ref d from ru)
  obtain ⟨lo, hgd, hx, es, ep, vs', hdt, hsz, kv, _⟩ := I1.frzK hd
  have hdl : d < s1.heap.objs.size := Heap.lt_size hgd
  refine enum_call (begins_keys lo hx hdt) hgd fun h' he hit hk => wpAny_pyIter_enum he ?_
  have I2 : Inv X pins σ H1 { s1 with heap := h' } := I1.kept (t' := s1.toks) hk
  refine ⟨s1.heap.objs.size + 1, [s1.heap.objs.size + 1, s1.heap.objs.size], _, _, H1, rfl, I2, turn_enumD hdt (Nat.succ_ne_self _) (Nat.ne_of_lt hdl) (Ne.symm (Nat.ne_of_lt (Nat.lt_succ_of_lt hdl))), ⟨⟨.none, he⟩, ⟨_, hit, rfl, by rw [hsz] <;> rfl⟩⟩, fun b hb => ?_, q⟩
  have hle : s1.heap.objs.size ≤ b := by
    rcases List.mem_cons.mp hb with z | z
    · rw [z]; exact Nat.le_add_right _ _
    · rw [List.mem_singleton.mp z]; exact Nat.le_refl _
  exact I1.fpOk hle (I1.hok.fresh hle)

/-! ### pages: names with shares -/
abbrev Nm := List Nat
abbrev Pg := List (Nm × Int × Int)
def EntV (K : PySem.W.Frag) (H : Hp) (kv : Key × V) (e : Nm × Int × Int) : Prop := kv.1 = .inr (ofL e.1) ∧ ∃ q, kv.2 = .ref q ∧ SqT K H q [.int e.2.1, .int e.2.2]
def PgV (K : PySem.W.Frag) (H : Hp) : List (Key × V) → Pg → Prop := Paired (EntV K H)
def getP (p : Pg) (n : Nm) : Option (Int × Int) := (p.find? fun e => decide (e.1 = n)).map (·.2)
def putP (p : Pg) (n : Nm) (s : Int × Int) : Pg := if (p.any fun e => decide (e.1 = n)) = true then p.map (fun e => if e.1 = n then (e.1, s) else e) else p ++ [(n, s)]
def NmOk (n : Nm) : Prop := 1 ≤ n.length ∧ n.length ≤ 8 ∧ ∀ x ∈ n, x < 1114112
theorem ofL_inj {a b : List Nat} (h : ofL a = ofL b) : a = b := by
  have := congrArg (fun z : Str => z.cps.toList) h
  exact this
theorem key_dec (a b : Nm) : decide ((Sum.inr (ofL a) : Key) = .inr (ofL b)) = decide (a = b) := decide_eq_decide.mpr ⟨fun h => ofL_inj (Sum.inr.inj h), fun h => by rw [h]⟩
section
variable {K : PySem.W.Frag} {H H' : Hp} {kvs : List (Key × V)} {p : Pg}
theorem EntV.mono {kv : Key × V} {e : Nm × Int × Int} (x : Ex H H') (h : EntV K H kv e) : EntV K H' kv e := ⟨h.1, let ⟨q, a, b⟩ := h.2; ⟨q, a, ex_t x b⟩⟩
theorem PgV.to (f : ∀ q xs, SqT K H q xs → SqT K H' q xs) (h : PgV K H kvs p) : PgV K H' kvs p := Paired.mapP h fun _ _ h => ⟨h.1, let ⟨q, a, b⟩ := h.2; ⟨q, a, f _ _ b⟩⟩
theorem PgV.mono (x : Ex H H') (h : PgV K H kvs p) : PgV K H' kvs p := h.to fun _ _ => ex_t x
theorem PgV.len (h : PgV K H kvs p) : kvs.length = p.length := Paired.length h
theorem PgV.any (n : Nm) (h : PgV K H kvs p) : (kvs.any fun kv => decide (kv.1 = .inr (ofL n))) = p.any fun e => decide (e.1 = n) := by
  unfold PgV at h
  induction h with
  | nil => rfl
  | cons h t ih => rw [List.any_cons, List.any_cons, ih, h.1, key_dec]
theorem PgV.get (n : Nm) (h : PgV K H kvs p) : (∃ q s, valV kvs (.inr (ofL n)) = some (.ref q) ∧ getP p n = some s ∧ SqT K H q [.int s.1, .int s.2]) ∨ (valV kvs (.inr (ofL n)) = none ∧ getP p n = none) := by
  unfold PgV at h
  induction h with
  | nil => exact .inr ⟨rfl, rfl⟩
  | @cons kv e kvs p h t ih =>
    obtain ⟨h1, q, h2, h3⟩ := h
    unfold valV getP
    rw [List.find?_cons, List.find?_cons, h1, key_dec]
    by_cases c : e.1 = n
    · rw [decide_eq_true c]
      exact .inl ⟨q, e.2, by show some kv.2 = _; rw [h2], rfl, h3⟩
    · rw [decide_eq_false c]
      exact ih
theorem PgV.snoc {n : Nm} {q : Addr} {s : Int × Int} (h : PgV K H kvs p) (hq : SqT K H q [.int s.1, .int s.2]) : PgV K H (kvs ++ [(.inr (ofL n), .ref q)]) (p ++ [(n, s)]) := by
  unfold PgV at h
  induction h with
  | nil => exact .cons ⟨rfl, q, rfl, hq⟩ .nil
  | cons h t ih => exact .cons h ih
theorem PgV.put {n : Nm} {q : Addr} {s : Int × Int} (h : PgV K H kvs p) (hq : SqT K H q [.int s.1, .int s.2]) : PgV K H (putK kvs (.inr (ofL n)) (.ref q)) (putP p n s) := by
  unfold putK putP
  rw [h.any n]
  split
  · unfold PgV at h
    induction h with
    | nil => exact .nil
    | @cons kv e kvs p h t ih =>
      rename_i c
      rw [List.map_cons, List.map_cons]
      refine .cons ?_ ?_
      · by_cases c : e.1 = n
        · rw [if_pos (by rw [h.1, c]), if_pos c]
          exact ⟨h.1, q, rfl, hq⟩
        · rw [if_neg (fun z => c (ofL_inj (Sum.inr.inj (h.1.symm.trans z)))), if_neg c]
          exact h
      · clear ih c h
        induction t with
        | nil => exact .nil
        | @cons kv e kvs p h t ih =>
          rw [List.map_cons, List.map_cons]
          refine .cons ?_ ih
          by_cases c : e.1 = n
          · rw [if_pos (by rw [h.1, c]), if_pos c]
            exact ⟨h.1, q, rfl, hq⟩
          · rw [if_neg (fun z => c (ofL_inj (Sum.inr.inj (h.1.symm.trans z)))), if_neg c]
            exact h
  · exact h.snoc hq
theorem PgV.keys (h : PgV K H kvs p) : kvs.map (·.1) = (p.map fun e => ofL e.1).map Sum.inr := by
  unfold PgV at h
  induction h with
  | nil => rfl
  | cons h t ih => rw [List.map_cons, List.map_cons, List.map_cons, ih, h.1]
theorem PgV.at {i : Nat} {kv : Key × V} (h : PgV K H kvs p) (hi : kvs[i]? = some kv) : ∃ e, p[i]? = some e ∧ EntV K H kv e := by
  unfold PgV at h
  induction h generalizing i with
  | nil => simp at hi
  | cons h t ih =>
    cases i with
    | zero =>
      obtain rfl := Option.some.inj hi
      exact ⟨_, rfl, h⟩
    | succ i => exact ih (by simpa using hi)
end
theorem putP_names (p : Pg) (n : Nm) (s : Int × Int) : (putP p n s).map (·.1) = if n ∈ p.map (·.1) then p.map (·.1) else p.map (·.1) ++ [n] := by
  unfold putP
  have e : (p.any fun e => decide (e.1 = n)) = decide (n ∈ p.map (·.1)) := by
    rw [Bool.eq_iff_iff, List.any_eq_true, decide_eq_true_iff, List.mem_map]
    constructor
    · rintro ⟨x, h1, h2⟩
      exact ⟨x, h1, of_decide_eq_true h2⟩
    · rintro ⟨x, h1, h2⟩
      exact ⟨x, h1, decide_eq_true h2⟩
  rw [e]
  by_cases h : n ∈ p.map (·.1)
  · rw [if_pos (decide_eq_true h), if_pos h, List.map_map]
    congr 1
    funext x
    show (if x.1 = n then (x.1, s) else x).1 = x.1
    split <;> rfl
  · rw [if_neg (by simpa using h), if_neg h, List.map_append]
    rfl
theorem putP_nd {p : Pg} {n : Nm} {s : Int × Int} (h : (p.map (·.1)).Nodup) : ((putP p n s).map (·.1)).Nodup := by
  rw [putP_names]
  split
  · exact h
  · rename_i c
    exact nd_snoc h c
theorem putP_len {p : Pg} {n : Nm} {s : Int × Int} : (putP p n s).length ≤ p.length + 1 := by
  have := congrArg List.length (putP_names p n s)
  rw [List.length_map] at this
  rw [this]
  split
  · rw [List.length_map]; omega
  · rw [List.length_append, List.length_map]; simp
theorem putP_ok {p : Pg} {n : Nm} {s : Int × Int} (h : ∀ e ∈ p, NmOk e.1) (hn : NmOk n) : ∀ e ∈ putP p n s, NmOk e.1 := by
  intro e he
  have : e.1 ∈ (putP p n s).map (·.1) := List.mem_map.mpr ⟨e, he, rfl⟩
  rw [putP_names] at this
  have hp : ∀ m ∈ p.map (·.1), NmOk m := fun m hm => by
    obtain ⟨x, h1, rfl⟩ := List.mem_map.mp hm
    exact h x h1
  split at this
  · exact hp _ this
  · rcases List.mem_append.mp this with h2 | h2
    · exact hp _ h2
    · rw [List.mem_singleton.mp h2]; exact hn
theorem getP_mem {p : Pg} (h : (p.map (·.1)).Nodup) : ∀ e ∈ p, getP p e.1 = some e.2 := by
  induction p with
  | nil => intro e he; cases he
  | cons a r ih =>
    intro e he
    rw [List.map_cons, List.nodup_cons] at h
    unfold getP
    rw [List.find?_cons]
    rcases List.mem_cons.mp he with rfl | he
    · rw [decide_eq_true rfl]
      rfl
    · rw [decide_eq_false (fun z => h.1 (by rw [z]; exact List.mem_map.mpr ⟨e, he, rfl⟩))]
      exact ih h.2 e he
/-- a page stands at d; it may be locked -/
def PgRd (K : PySem.W.Frag) (H : Hp) (d : Addr) (p : Pg) : Prop := ∃ kvs, Rd H d (.dK kvs) ∧ PgV K H kvs p ∧ (p.map (·.1)).Nodup ∧ (∀ e ∈ p, NmOk e.1) ∧ p.length ≤ 1000
def PgAt (K : PySem.W.Frag) (H : Hp) (d : Addr) (p : Pg) : Prop := ∃ kvs, H d = some (.dK kvs) ∧ PgV K H kvs p ∧ (p.map (·.1)).Nodup ∧ (∀ e ∈ p, NmOk e.1) ∧ p.length ≤ 1000
section
variable {K : PySem.W.Frag} {H H' : Hp} {d : Addr} {p : Pg}
theorem PgAt.rd (h : PgAt K H d p) : PgRd K H d p := let ⟨kvs, a, b⟩ := h; ⟨kvs, .inl a, b⟩
theorem PgRd.mono (x : Ex H H') (h : PgRd K H d p) : PgRd K H' d p := let ⟨kvs, a, b, c⟩ := h; ⟨kvs, ex_rd x a, b.mono x, c⟩
theorem PgAt.mono (x : Ex H H') (h : PgAt K H d p) : PgAt K H' d p := let ⟨kvs, a, b, c⟩ := h; ⟨kvs, x _ _ a, b.mono x, c⟩
end
section
variable {K : PySem.W.Frag} {H H' : Hp} {d : Addr}
theorem upd_t {q : Addr} {xs : List V} {kvs : List (Key × V)} {o : HO} (hd : H d = some (.dK kvs)) (h : SqT K H q xs) : SqT K (upd H d o) q xs := by
  rcases h with (h | ⟨o, h⟩) | h
  · exact .inl (.inl (by rw [upd_ne (ne_of h hd (by intro z; cases z))]; exact h))
  · exact .inl (.inr ⟨o, by rw [upd_ne (ne_of h hd (by intro z; cases z))]; exact h⟩)
  · exact .inr h
end

def top (i : Nat) : Stmt := PySem.Challenge.pw_gossipcount_k06_pages_lacking.main.body.getD i (.Pass ⟨0, 0, 0, 0⟩)
abbrev s_reaches : Stmt := top 2
theorem sc_reaches : FnScope ["one", "other"] ["one", "other"] (defScope s_reaches) := ⟨rfl, rfl, rfl, by decide +kernel, rfl, by decide +kernel, by decide +kernel⟩
abbrev s_share_of : Stmt := top 4
theorem sc_share_of : FnScope ["page", "name"] ["page", "name"] (defScope s_share_of) := ⟨rfl, rfl, rfl, by decide +kernel, rfl, by decide +kernel, by decide +kernel⟩
abbrev s_knows : Stmt := top 5
theorem sc_knows : FnScope ["one", "other", "name"] ["one", "other"] (defScope s_knows) := ⟨rfl, rfl, rfl, by decide +kernel, rfl, by decide +kernel, by decide +kernel⟩
abbrev s_lacking : Stmt := top 6
theorem sc_lacking : FnScope ["one", "other", "name"] ["one", "other"] (defScope s_lacking) := ⟨rfl, rfl, rfl, by decide +kernel, rfl, by decide +kernel, by decide +kernel⟩
abbrev s_law_cell_at : Stmt := top 8
theorem sc_law_cell_at : FnScope ["_law_script", "_law_k"] ["_law_script", "_law_k"] (defScope s_law_cell_at) := ⟨rfl, rfl, rfl, by decide +kernel, rfl, by decide +kernel, by decide +kernel⟩
abbrev s_law_whole : Stmt := top 9
theorem sc_law_whole : FnScope ["_law_found"] ["_law_found"] (defScope s_law_whole) := ⟨rfl, rfl, rfl, by decide +kernel, rfl, by decide +kernel, by decide +kernel⟩
abbrev s_law_number_by : Stmt := top 10
theorem sc_law_number_by : FnScope ["_law_cell", "_law_kind"] ["_law_cell"] (defScope s_law_number_by) := ⟨rfl, rfl, rfl, by decide +kernel, rfl, by decide +kernel, by decide +kernel⟩
abbrev s_law_share : Stmt := top 11
theorem sc_law_share : FnScope ["_law_found", "_law_due"] ["_law_found", "_law_due"] (defScope s_law_share) := ⟨rfl, rfl, rfl, by decide +kernel, rfl, by decide +kernel, by decide +kernel⟩
abbrev s_law_name_by : Stmt := top 12
theorem sc_law_name_by : FnScope ["_law_cell", "_law_signs", "_law_step", "_law_word", "_law_k"] ["_law_cell"] (defScope s_law_name_by) := ⟨rfl, rfl, rfl, by decide +kernel, rfl, by decide +kernel, by decide +kernel⟩
abbrev s_law_mixed : Stmt := top 13
theorem sc_law_mixed : FnScope ["_law_cell", "_law_k"] ["_law_cell", "_law_k"] (defScope s_law_mixed) := ⟨rfl, rfl, rfl, by decide +kernel, rfl, by decide +kernel, by decide +kernel⟩
abbrev s_law_page_by : Stmt := top 14
theorem sc_law_page_by : FnScope ["_law_names", "_law_shares", "_law_size", "_law_page", "_law_k", "_law_share_here"] ["_law_names", "_law_shares", "_law_size"] (defScope s_law_page_by) := ⟨rfl, rfl, rfl, by decide +kernel, rfl, by decide +kernel, by decide +kernel⟩
abbrev s_law_near_by : Stmt := top 15
theorem sc_law_near_by : FnScope ["_law_page", "_law_cell", "_law_other", "_law_k", "_law_name", "_law_kind", "_law_share_here", "_law_at", "_law_twin"] ["_law_page", "_law_cell"] (defScope s_law_near_by) := ⟨rfl, rfl, rfl, by decide +kernel, rfl, by decide +kernel, by decide +kernel⟩
abbrev s_law_same : Stmt := top 16
theorem sc_law_same : FnScope ["_law_found", "_law_due", "_law_name"] ["_law_found", "_law_due"] (defScope s_law_same) := ⟨rfl, rfl, rfl, by decide +kernel, rfl, by decide +kernel, by decide +kernel⟩
abbrev s_law_truth : Stmt := top 17
theorem sc_law_truth : FnScope ["_law_found", "_law_due"] ["_law_found", "_law_due"] (defScope s_law_truth) := ⟨rfl, rfl, rfl, by decide +kernel, rfl, by decide +kernel, by decide +kernel⟩
abbrev s_law_lacking : Stmt := top 18
theorem sc_law_lacking : FnScope ["_law_one", "_law_other", "_law_page", "_law_name", "_law_mine"] ["_law_one", "_law_other"] (defScope s_law_lacking) := ⟨rfl, rfl, rfl, by decide +kernel, rfl, by decide +kernel, by decide +kernel⟩
abbrev s_law : Stmt := top 19
theorem sc_law : FnScope ["_law_script", "_law_size", "_law_one", "_law_other", "_law_more", "_law_name", "_law_handed", "_law_left", "_law_right", "_law_some", "_law_page"] ["_law_script"] (defScope s_law) := ⟨rfl, rfl, rfl, by decide +kernel, rfl, by decide +kernel, by decide +kernel⟩
structure Txt (K : PySem.W.Frag) (mg : Str → Option Value) where
  a_reaches : Addr
  d_reaches : FuncData
  h_reaches : Has K mg "reaches" s_reaches ["one", "other"] a_reaches d_reaches
  a_share_of : Addr
  d_share_of : FuncData
  h_share_of : Has K mg "share_of" s_share_of ["page", "name"] a_share_of d_share_of
  a_knows : Addr
  d_knows : FuncData
  h_knows : Has K mg "knows" s_knows ["one", "other"] a_knows d_knows
  a_lacking : Addr
  d_lacking : FuncData
  h_lacking : Has K mg "lacking" s_lacking ["one", "other"] a_lacking d_lacking
  a_law_cell_at : Addr
  d_law_cell_at : FuncData
  h_law_cell_at : Has K mg "_law_cell_at" s_law_cell_at ["_law_script", "_law_k"] a_law_cell_at d_law_cell_at
  a_law_whole : Addr
  d_law_whole : FuncData
  h_law_whole : Has K mg "_law_whole" s_law_whole ["_law_found"] a_law_whole d_law_whole
  a_law_number_by : Addr
  d_law_number_by : FuncData
  h_law_number_by : Has K mg "_law_number_by" s_law_number_by ["_law_cell"] a_law_number_by d_law_number_by
  a_law_share : Addr
  d_law_share : FuncData
  h_law_share : Has K mg "_law_share" s_law_share ["_law_found", "_law_due"] a_law_share d_law_share
  a_law_name_by : Addr
  d_law_name_by : FuncData
  h_law_name_by : Has K mg "_law_name_by" s_law_name_by ["_law_cell"] a_law_name_by d_law_name_by
  a_law_mixed : Addr
  d_law_mixed : FuncData
  h_law_mixed : Has K mg "_law_mixed" s_law_mixed ["_law_cell", "_law_k"] a_law_mixed d_law_mixed
  a_law_page_by : Addr
  d_law_page_by : FuncData
  h_law_page_by : Has K mg "_law_page_by" s_law_page_by ["_law_names", "_law_shares", "_law_size"] a_law_page_by d_law_page_by
  a_law_near_by : Addr
  d_law_near_by : FuncData
  h_law_near_by : Has K mg "_law_near_by" s_law_near_by ["_law_page", "_law_cell"] a_law_near_by d_law_near_by
  a_law_same : Addr
  d_law_same : FuncData
  h_law_same : Has K mg "_law_same" s_law_same ["_law_found", "_law_due"] a_law_same d_law_same
  a_law_truth : Addr
  d_law_truth : FuncData
  h_law_truth : Has K mg "_law_truth" s_law_truth ["_law_found", "_law_due"] a_law_truth d_law_truth
  a_law_lacking : Addr
  d_law_lacking : FuncData
  h_law_lacking : Has K mg "_law_lacking" s_law_lacking ["_law_one", "_law_other"] a_law_lacking d_law_lacking
  a_law : Addr
  d_law : FuncData
  h_law : Has K mg "law" s_law ["_law_script"] a_law d_law
  n_all : mg "all" = none
  n_bool : mg "bool" = none
  n_dict : mg "dict" = none
  n_enumerate : mg "enumerate" = none
  n_int : mg "int" = none
  n_isinstance : mg "isinstance" = none
  n_len : mg "len" = none
  n_list : mg "list" = none
  n_min : mg "min" = none
  n_range : mg "range" = none
  n_sorted : mg "sorted" = none
  n_str : mg "str" = none
  n_tuple : mg "tuple" = none
  p_NOTHING : Addr
  g_NOTHING : mg "NOTHING" = some (.ref p_NOTHING) ∧ RelV (.ref p_NOTHING) (.ref p_NOTHING)
  t_NOTHING : ∀ H, SqT K H p_NOTHING [.int 0, .int 0]
def spLaw (K : PySem.W.Frag) : Sp := fun vs H Q _ => ∃ (a : Addr) (ns : List Int), vs = [.ref a] ∧ SqL K H a (ns.map V.int) ∧ ns.length ≤ 63 ∧ ∀ H', Q (.bl true) H'
/-! ### loops over a locked dict -/
def lkD (D : Ends) (d : Addr) (od : Obj) (u : HO) : Ends := ⟨fun σ' H' => H' d = some (.frz od u) ∧ D.nx σ' (upd H' d u), fun v H' => H' d = some (.frz od u) ∧ D.rt v (upd H' d u), fun σ' H' => H' d = some (.frz od u) ∧ D.bk σ' (upd H' d u), fun σ' H' => H' d = some (.frz od u) ∧ D.ct σ' (upd H' d u)⟩
section
variable {K : PySem.W.Frag} {σ : L2.St} {H H' : Hp} {ta : TA} {td : TE} {D : Ends} {t tz tb : TS}
theorem q_lock {d : Addr} {kvs : List (Key × V)} (hd : H d = some (.dK kvs)) (h : ∀ od, t (lkD { D with nx := tz D } d od (.dK kvs)) σ (upd H d (.frz od (.dK kvs)))) : tSeq (tLock t) tz D σ H := ⟨d, .dK kvs, hd, trivial, h⟩
theorem s_lock {d : Addr} {kvs : List (Key × V)} (hd : H d = some (.dK kvs)) (h : ∀ od, t (lkD D d od (.dK kvs)) σ (upd H d (.frz od (.dK kvs)))) : tLock t D σ H := ⟨d, .dK kvs, hd, trivial, h⟩
theorem s_forEnumD {d : Addr} {od : Obj} {kvs : List (Key × V)} {i j n : Nat} (h : Ev td σ H (.ref d)) (hn : n = 2) (hd : H d = some (.frz od (.dK kvs))) (Pv : Nat → L2.St → Hp → Prop) (h0 : ∀ H1, Ex H H1 → Pv 0 σ H1) (hl : ∀ m σ' H', Pv m σ' H' → H' d = some (.frz od (.dK kvs)))
    (hs : ∀ m k u σ' H' T, kvs[m]? = some (k, u) → Pv m σ' H' → H' T = none → tb { D with nx := Pv (m + 1), ct := Pv (m + 1), bk := D.nx } ((σ'.set i (some (.int (m : Nat)))).set j (some (kV k))) (upd H' T (.tup [.int (m : Nat), kV k])))
    (he : ∀ σ' H', Pv kvs.length σ' H' → D.nx σ' H') : tFor (iEnumD (tCons td tNil)) (gTup K n (gCons (gName i) (gCons (gName j) gNil))) tb D σ H :=
  h H (Ex.refl H) _ fun H1 e1 => ⟨d, od, kvs, rfl, e1 _ _ hd, for_it (walk_enumD (d := d) (o := od) (kvs := kvs)) Pv (h0 H1 e1) (fun m σ' H' _ p => hl m σ' H' p) (fun m x σ' H' H'' _ p y => by
      obtain ⟨T, k, u, rfl, hT, rfl, hkv⟩ := y
      exact ⟨T, [.int (m : Nat), kV k], rfl, .inl (.inl upd_same), by rw [hn]; rfl, .int (m : Nat), [kV k], rfl, kV k, [], rfl, rfl, hs m k u σ' H' T hkv p hT⟩) he⟩
theorem s_forKeys {d : Addr} {od : Obj} {kvs : List (Key × V)} {i : Nat} (h : Ev td σ H (.ref d)) (hd : H d = some (.frz od (.dK kvs))) (Pv : Nat → L2.St → Hp → Prop) (h0 : ∀ H1, Ex H H1 → Pv 0 σ H1) (hl : ∀ m σ' H', Pv m σ' H' → H' d = some (.frz od (.dK kvs)))
    (hs : ∀ m k u σ' H', kvs[m]? = some (k, u) → Pv m σ' H' → tb { D with nx := Pv (m + 1), ct := Pv (m + 1), bk := D.nx } (σ'.set i (some (kV k))) H')
    (he : ∀ σ' H', Pv kvs.length σ' H' → D.nx σ' H') : tFor (iKeys td) (gName i) tb D σ H :=
  h H (Ex.refl H) _ fun H1 e1 => ⟨d, od, rfl, .inl ⟨kvs, e1 _ _ hd, for_it (walk_keys (d := d) (o := od) (kvs := kvs)) Pv (h0 H1 e1) (fun m σ' H' _ p => hl m σ' H' p) (fun m x σ' H' H'' _ p y => by
      obtain ⟨rfl, k, u, hkv, rfl⟩ := y
      exact hs m k u σ' H'' hkv p) he⟩⟩
theorem upd_tF {d q : Addr} {xs : List V} {od : Obj} {kvs : List (Key × V)} {o : HO} (hd : H d = some (.frz od (.dK kvs))) (h : SqT K H q xs) : SqT K (upd H d o) q xs := by
  rcases h with (h | ⟨o, h⟩) | h
  · exact .inl (.inl (by rw [upd_ne (ne_of h hd (by intro z; cases z))]; exact h))
  · exact .inl (.inr ⟨o, by rw [upd_ne (ne_of h hd (by intro z; cases z))]; exact h⟩)
  · exact .inr h
theorem PgAt.updF {d a : Addr} {p : Pg} {od : Obj} {kvs : List (Key × V)} {o : HO} (hd : H d = some (.frz od (.dK kvs))) (hne : a ≠ d) (h : PgAt K H a p) : PgAt K (L2.upd H d o) a p :=
  let ⟨ks, h1, h2, h3⟩ := h; ⟨ks, by rw [upd_ne hne]; exact h1, h2.to fun _ _ => upd_tF hd, h3⟩
theorem PgRd.lock {d a : Addr} {od : Obj} {kvs : List (Key × V)} {p : Pg} (hd : H d = some (.dK kvs)) (h : PgRd K H a p) : PgRd K (upd H d (.frz od (.dK kvs))) a p := by
  obtain ⟨ks, h1, h2, h3⟩ := h
  refine ⟨ks, ?_, h2.to fun _ _ => upd_t hd, h3⟩
  by_cases e : a = d
  · subst e
    rcases h1 with h1 | ⟨f, h1⟩
    · obtain rfl := HO.dK.inj (Option.some.inj (hd.symm.trans h1))
      exact .inr ⟨od, upd_same⟩
    · exact absurd (hd.symm.trans h1) (by intro z; cases z)
  · rcases h1 with h1 | ⟨f, h1⟩
    · exact .inl (by rw [upd_ne e]; exact h1)
    · exact .inr ⟨f, by rw [upd_ne e]; exact h1⟩
end

section
variable {P : Program} {w : World} {K : PySem.W.Frag} {mg : Str → Option Value} {base : Heap}
abbrev spReaches (K : PySem.W.Frag) : Sp := SpF (fun x : (Addr × Addr) × (Int × Int) × Int × Int => [.ref x.1.1, .ref x.1.2]) (fun x H => SqT K H x.1.1 [.int x.2.1.1, .int x.2.1.2] ∧ SqT K H x.1.2 [.int x.2.2.1, .int x.2.2.2]) (fun x H => Is (.bl (decide (x.2.2.1 ≤ x.2.1.1) && decide (x.2.2.2 ≤ x.2.1.2))))
theorem ok_reaches (T : Txt K mg) : FnOk P w K mg base CX0 1 T.a_reaches T.d_reaches ["one", "other"] (spReaches K) := by
  refine T.h_reaches.F.ok sc_reaches (fun vs H Q E h => ?_) (fun cdv A outer s H vs Q E hr h => ?_)
  · obtain ⟨c, rfl, _⟩ := h
    rfl
  · obtain ⟨⟨⟨p, q⟩, ⟨a, b⟩, c, d⟩, rfl, ⟨hp, hq⟩, k⟩ := h
    simp only at hp hq k
    refine ⟨_, (pss_one (ps_ret (pe_and (pe_cmpR op_ge (pe_ix ix_tup (pv 0) pe_int (fun _ _ => rfl)) (pe_ix ix_tup (pv 1) pe_int (fun _ _ => rfl)) (nomark _)) (pe_one (pe_cmpR op_ge (pe_ix ix_tup (pv 0) pe_int (fun _ _ => rfl)) (pe_ix ix_tup (pv 1) pe_int (fun _ _ => rfl)) (nomark _)))))), ?_⟩
    refine s_ret (by walk_at "ev") fun H1 e1 => ?_
    exact k _ _ e1 rfl
theorem x_reaches {σ : L2.St} {H : Hp} {ta tb : TE} {E : XK} {a b c d : Int} (h1 : EvX ta σ H (Tp K [.int a, .int b])) (h2 : EvX tb σ H (Tp K [.int c, .int d])) :
    Ev (tCall (spReaches K) [] E (tCons ta (tCons tb tNil))) σ H (.bl (decide (c ≤ a) && decide (d ≤ b))) := ev_x (x_call2 h1 h2 (by
  rintro _ _ H1 e ⟨p, rfl, hp⟩ ⟨q, rfl, hq⟩
  exact sx_of ((p, q), (a, b), c, d) (fun H2 e2 => ⟨ex_t e2 hp, ex_t e2 hq⟩) fun _ _ _ _ _ h => h))
end
local macro_rules | `(tactic| walk_at "xc") => `(tactic| ((with_reducible apply x_reaches); (focus (walk_at "xv")); (focus (walk_at "xv"))))

/-! ### a dict comprehension over any walk -/
section
variable {J : It} {n : Nat} {G : Hp → Prop} {Y : Nat → Hp → V → Hp → Prop}
theorem dc_walk (w : Walk J n G Y) {g : TG} {tt : TT} {tk tv : TE} {vs : List Nat} {σ : L2.St} {H1 : Hp} {D : Addr} {Qd : Hp → Prop} (Pv : Nat → Hp → Prop) (h0 : Pv 0 (upd H1 D (.dK []))) (hG : ∀ i H, i ≤ n → Pv i H → G H)
    (hs : ∀ i x H H', i < n → Pv i H → Y i H x H' → g x (wipe σ vs) H' fun σ2 H2 => wipe σ2 vs = wipe σ vs ∧ tt σ2 H2 fun b H3 =>
      if b = true then tk σ2 H3 fun y H4 => tv σ2 H4 fun z H5 => ∃ kvs k, y = kV k ∧ H5 D = some (.dK kvs) ∧ kvs.length < sizeLine ∧ Pv (i + 1) (upd H5 D (.dK (putK kvs k z))) else Pv (i + 1) H3) (hd : ∀ H, Pv n H → Qd H) :
    ∃ W : Nat → Nat → Hp → Prop, (∃ m, W 0 m (upd H1 D (.dK []))) ∧ ∀ i m H, W i m H →
      (J.stop i H ∧ Qd H) ∨ (J.go i H ∧ ∃ Nx : Hp → Prop, (∀ H', Nx H' → ∃ m', m' < m ∧ W (i + 1) m' H') ∧ ∀ x H', J.yld i H x H' → g x (wipe σ vs) H' fun σ2 H2 => wipe σ2 vs = wipe σ vs ∧ tt σ2 H2 fun b H3 =>
        if b = true then tk σ2 H3 fun y H4 => tv σ2 H4 fun z H5 => ∃ kvs k, y = kV k ∧ H5 D = some (.dK kvs) ∧ kvs.length < sizeLine ∧ Nx (upd H5 D (.dK (putK kvs k z))) else Nx H3) := by
  refine ⟨fun i m H => m = n - i ∧ i ≤ n ∧ Pv i H, ⟨n, by simp, Nat.zero_le _, h0⟩, ?_⟩
  rintro i m H ⟨rfl, hi, pv⟩
  have gg := hG i H hi pv
  rcases Nat.lt_or_ge i n with lt | ge
  · exact .inr ⟨w.goes i H lt gg, Pv (i + 1), fun H' p' => ⟨n - (i + 1), by omega, rfl, lt, p'⟩, fun x H' y => hs i x H H' lt pv (w.yields i H x H' lt gg y)⟩
  · obtain rfl : i = n := by omega
    exact .inl ⟨w.stops H gg, hd H pv⟩
end
def reachB (a b : Int × Int) : Bool := decide (b.1 ≤ a.1) && decide (b.2 ≤ a.2)
section
variable {K : PySem.W.Frag} {σ : L2.St} {H H' : Hp} {td tk tx te : TE} {x y v : V}
theorem dget_rd {d : Addr} {p : Pg} {n : Nm} (h : PgRd K H d p) : (∃ q s, DGet H d (.str (ofL n)) (some (.ref q)) ∧ getP p n = some s ∧ SqT K H q [.int s.1, .int s.2]) ∨ (DGet H d (.str (ofL n)) none ∧ getP p n = none) := by
  obtain ⟨kvs, hd, hp, _⟩ := h
  rcases hp.get n with ⟨q, s, h1, h2, h3⟩ | ⟨h1, h2⟩
  · exact .inl ⟨q, s, .inl ⟨kvs, .inr (ofL n), hd, rfl, h1.symm⟩, h2, h3⟩
  · exact .inr ⟨.inl ⟨kvs, .inr (ofL n), hd, rfl, h1.symm⟩, h2⟩
/-- d[n], n in the page -/
theorem x_dget {d : Addr} {p : Pg} {n : Nm} {s : Int × Int} (h1 : Ev td σ H (.ref d)) (h2 : Ev tk σ H (.str (ofL n))) (hp : PgRd K H d p) (hs : getP p n = some s) : EvX (tDGet td tk) σ H (Tp K [.int s.1, .int s.2]) := fun H1 e Q q =>
  h1 H1 e _ fun H2 e2 => h2 H2 (e.trans e2) _ fun H3 e3 => by
    rcases dget_rd (n := n) (hp.mono ((e.trans e2).trans e3)) with ⟨r, s', g1, g2, g3⟩ | ⟨_, g2⟩
    · rw [hs] at g2
      obtain rfl := Option.some.inj g2
      exact ⟨d, _, rfl, g1, q _ H3 (e2.trans e3) ⟨r, rfl, g3⟩⟩
    · rw [hs] at g2
      cases g2
/-- d.get(n, x) -/
theorem x_dget2 {d : Addr} {p : Pg} {n : Nm} {s0 : Int × Int} (h1 : Ev td σ H (.ref d)) (h2 : Ev tk σ H (.str (ofL n))) (h3 : EvX tx σ H (Tp K [.int s0.1, .int s0.2])) (hp : PgRd K H d p) :
    EvX (tDGet2 td tk tx) σ H (Tp K [.int ((getP p n).getD s0).1, .int ((getP p n).getD s0).2]) := fun H1 e Q q =>
  h1 H1 e _ fun H2 e2 => ⟨d, rfl, let ⟨kvs, a, _⟩ := hp.mono (e.trans e2); .inl ⟨kvs, a⟩, h2 H2 (e.trans e2) _ fun H3 e3 => h3 H3 ((e.trans e2).trans e3) _ fun z H4 e4 hz => by
    have e24 : Ex H2 H4 := e3.trans e4
    rcases dget_rd (n := n) (hp.mono ((e.trans e2).trans e24)) with ⟨r, s', g1, g2, g3⟩ | ⟨g1, g2⟩
    · refine ⟨_, g1, q _ H4 (e2.trans e24) ⟨r, rfl, ?_⟩⟩
      rw [g2]
      exact g3
    · refine ⟨_, g1, q _ H4 (e2.trans e24) ?_⟩
      rw [g2]
      exact hz⟩
end
section
variable {P : Program} {w : World} {K : PySem.W.Frag} {mg : Str → Option Value} {base : Heap}
abbrev spShareOf (K : PySem.W.Frag) : Sp := SpF (fun x : Addr × Nm × Pg => [.ref x.1, .str (ofL x.2.1)]) (fun x H => PgRd K H x.1 x.2.2) (fun x _ => Tp K [.int ((getP x.2.2 x.2.1).getD (0, 0)).1, .int ((getP x.2.2 x.2.1).getD (0, 0)).2])
theorem x_shareOf {σ : L2.St} {H : Hp} {ta tb : TE} {E : XK} {d : Addr} {p : Pg} {n : Nm} (h1 : Ev ta σ H (.ref d)) (h2 : Ev tb σ H (.str (ofL n))) (hp : PgRd K H d p) :
    EvX (tCall (spShareOf K) [] E (tCons ta (tCons tb tNil))) σ H (Tp K [.int ((getP p n).getD (0, 0)).1, .int ((getP p n).getD (0, 0)).2]) := x_call2 (x_ev h1) (x_ev h2) (by
  rintro _ _ H1 e rfl rfl
  exact sx_of (d, n, p) (fun H2 e2 => hp.mono (e.trans e2)) fun _ _ _ _ _ h => h)
theorem ok_share_of (T : Txt K mg) : FnOk P w K mg base CX0 1 T.a_share_of T.d_share_of ["page", "name"] (spShareOf K) := by
  refine T.h_share_of.F.ok sc_share_of (fun vs H Q E h => ?_) (fun cdv A outer s H vs Q E hr h => ?_)
  · obtain ⟨c, rfl, _⟩ := h
    rfl
  · obtain ⟨⟨d, n, p⟩, rfl, hp, k⟩ := h
    simp only at hp k
    refine ⟨_, (pss_one (ps_ret (pe_dget2 (hu_of hr) (pv 0) (pv 1) (pe_glob rfl T.g_NOTHING.1 T.g_NOTHING.2) (by refine ⟨?_, ?_, ?_, ?_⟩ <;> rfl)))), ?_⟩
    exact sx_ret (x_dget2 (K := K) (s0 := (0, 0)) (ev_var rfl) (ev_var rfl) (x_is ev_c fun H1 _ => ⟨_, rfl, T.t_NOTHING H1⟩) hp) fun v H1 e1 h1 => k _ _ e1 h1
/-- what a page lacks: the names in this order -/
def lackP (p q : Pg) (ns : List Nm) : Pg := ns.filterMap fun n => (getP q n).bind fun s => if reachB ((getP p n).getD (0, 0)) s = true then none else some (n, s)
def RisingN (ns : List Nm) : Prop := ns.Pairwise fun a b => ¬ b < a
end

/-! ### lacking, knows -/
theorem lackP_sub (p q : Pg) : ∀ ns : List Nm, List.Sublist ((lackP p q ns).map (·.1)) ns
  | [] => List.Sublist.slnil
  | n :: ns => by
    have ih := lackP_sub p q ns
    unfold lackP at ih ⊢
    rw [List.filterMap_cons]
    cases getP q n with
    | none => exact ih.cons _
    | some s =>
      rw [Option.bind_some]
      by_cases c : reachB ((getP p n).getD (0, 0)) s = true
      · rw [if_pos c]
        exact ih.cons _
      · rw [if_neg c]
        exact ih.cons₂ _
theorem lackP_mem {p q : Pg} {ns : List Nm} {e : Nm × Int × Int} (h : e ∈ lackP p q ns) : getP q e.1 = some e.2 := by
  unfold lackP at h
  obtain ⟨n, hn, h⟩ := List.mem_filterMap.mp h
  cases c : getP q n with
  | none => rw [c] at h; cases h
  | some s =>
    rw [c] at h
    replace h : (if reachB ((getP p n).getD (0, 0)) s = true then none else some (n, s)) = some e := h
    split at h
    · cases h
    · obtain rfl := Option.some.inj h
      exact c
theorem lackP_succ {p q : Pg} {ns : List Nm} {i : Nat} {n : Nm} {s : Int × Int} (hi : ns[i]? = some n) (hs : getP q n = some s) :
    lackP p q (ns.take (i + 1)) = if reachB ((getP p n).getD (0, 0)) s = true then lackP p q (ns.take i) else lackP p q (ns.take i) ++ [(n, s)] := by
  unfold lackP
  rw [List.take_succ, hi, List.filterMap_append]
  show _ ++ List.filterMap _ [n] = _
  rw [List.filterMap_cons, List.filterMap_nil, hs]
  rw [Option.bind_some]
  by_cases c : reachB ((getP p n).getD (0, 0)) s = true
  · rw [if_pos c, if_pos c, List.append_nil]
  · rw [if_neg c, if_neg c]
theorem getP_some {p : Pg} {n : Nm} (h : n ∈ p.map (·.1)) : ∃ s, getP p n = some s := by
  unfold getP
  cases c : p.find? fun e => decide (e.1 = n) with
  | some e => exact ⟨e.2, rfl⟩
  | none =>
    obtain ⟨e, he, h2⟩ := List.mem_map.mp h
    have := List.find?_eq_none.mp c e he
    simp [h2] at this
theorem putP_new {p : Pg} {n : Nm} {s : Int × Int} (h : n ∉ p.map (·.1)) : putP p n s = p ++ [(n, s)] := by
  unfold putP
  rw [if_neg]
  intro c
  obtain ⟨e, he, h2⟩ := List.any_eq_true.mp c
  exact h (List.mem_map.mpr ⟨e, he, of_decide_eq_true h2⟩)
theorem perm_names {q : Pg} {ys : List Str} (h : ys.Perm (q.map fun e => ofL e.1)) : (ys.map fun y => y.cps.toList).Perm (q.map (·.1)) ∧ ys = (ys.map fun y => y.cps.toList).map ofL := by
  constructor
  · have := h.map fun y : Str => y.cps.toList
    rw [List.map_map] at this
    exact this
  · rw [List.map_map]
    exact (List.map_id'' (fun y => ofL_eta y) ys).symm
def LackV (K : PySem.W.Frag) (H : Hp) (p q : Pg) : VP := fun v H2 => ∃ d ns, v = .ref d ∧ H d = none ∧ PgAt K H2 d (lackP p q ns) ∧ ns.Perm (q.map (·.1)) ∧ RisingN ns
instance {K : PySem.W.Frag} {H : Hp} {p q : Pg} : Mono (LackV K H p q) := ⟨fun e ⟨d, ns, a, b, c, f⟩ => ⟨d, ns, a, b, c.mono e, f⟩⟩
section
variable {P : Program} {w : World} {K : PySem.W.Frag} {mg : Str → Option Value} {base : Heap}
abbrev spLacking (K : PySem.W.Frag) : Sp := SpF (fun x : (Addr × Addr) × Pg × Pg => [.ref x.1.1, .ref x.1.2]) (fun x H => PgRd K H x.1.1 x.2.1 ∧ PgRd K H x.1.2 x.2.2) (fun x H => LackV K H x.2.1 x.2.2)
theorem x_lacking {σ : L2.St} {H : Hp} {ta tb : TE} {E : XK} {a b : Addr} {p q : Pg} (h1 : Ev ta σ H (.ref a)) (h2 : Ev tb σ H (.ref b)) (hp : PgRd K H a p) (hq : PgRd K H b q) :
    EvX (tCall (spLacking K) [] E (tCons ta (tCons tb tNil))) σ H (LackV K H p q) := x_call2 (x_ev h1) (x_ev h2) (by
  rintro _ _ H1 e rfl rfl
  exact sx_of ((a, b), p, q) (fun H2 e2 => ⟨hp.mono (e.trans e2), hq.mono (e.trans e2)⟩) fun _ _ _ e2 _ ⟨d, ns, h1, h2, h3⟩ => ⟨d, ns, h1, fresh_back (e.trans e2) h2, h3⟩)
theorem ok_lacking (T : Txt K mg) : FnOk P w K mg base CX0 2 T.a_lacking T.d_lacking ["one", "other"] (spLacking K) := by
  refine T.h_lacking.F.ok sc_lacking (fun vs H Q E h => ?_) (fun cdv A outer s H vs Q E hr h => ?_)
  · obtain ⟨c, rfl, _⟩ := h
    rfl
  · obtain ⟨⟨⟨a, b⟩, p, q⟩, rfl, ⟨hp, hq⟩, k⟩ := h
    simp only at hp hq k
    refine ⟨_, (pss_one (ps_ret (pe_dc (own := [("name", 2)]) (by rfl) sc_lacking.nd (pi_list (pe_callB (gc_sortedD rfl) (by rfl) T.n_sorted (by decide +kernel) (pa_cons (pv 1) pa_nil))) (blkOk_by (own := [("name", 2)]) (N := ["one", "other", "name"]) (sc := defScope s_lacking) (by decide +kernel)) (fun _ _ _ _ _ => (pg_name (i := 2) sc_lacking.nd rfl (by first | exact Or.inl rfl | exact Or.inr rfl))) (fun _ _ _ _ _ => (pts_one (pt_not (pt_val (pe_call (ok_reaches T) (hr.mono (by decide)) rfl T.h_reaches.m T.h_reaches.F.kp T.h_reaches.b .nil pass0 (pa_cons (pe_call (ok_share_of T) (hr.mono (by decide)) rfl T.h_share_of.m T.h_share_of.F.kp T.h_share_of.b .nil pass0 (pa_cons (pv 0) (pa_cons (pv 2) pa_nil))) (pa_cons (pe_dget (hu_of hr) (pv 1) (pv 2) (fun _ _ => rfl)) pa_nil))))))) (fun _ _ _ _ _ => (pv 2)) (fun _ _ _ _ _ => (pe_dget (hu_of hr) (pv 1) (pv 2) (fun _ _ => rfl)))))), ?_⟩
    obtain ⟨kb, hb1, hb2, hb3, hb4, hb5⟩ := id hq
    refine ⟨.ref b, rfl, b, kb, q.map fun e => ofL e.1, rfl, hb1, hb2.keys, by rw [List.length_map]; omega, fun ys L hperm hys hL => ?_⟩
    obtain ⟨hns, eys⟩ := perm_names hperm
    have hris : RisingN (ys.map fun y => y.cps.toList) := List.pairwise_map.mpr hys
    generalize (ys.map fun y => y.cps.toList) = ns at hns eys hris
    subst eys
    have hnd : ns.Nodup := hns.symm.nodup hb3
    have e1 : Ex H (upd H L (.lst ((ns.map ofL).map V.str))) := Ex.new hL
    have hL1 : SqL K (upd H L (.lst ((ns.map ofL).map V.str))) L ((ns.map ofL).map V.str) := sq_of upd_same
    generalize upd H L (.lst ((ns.map ofL).map V.str)) = H1 at e1 hL1
    refine ⟨L, rfl, ⟨_, hL1⟩, fun D hD => ?_⟩
    refine dc_walk (walk_list (K := K) (a := L) (xs := (ns.map ofL).map V.str)) (fun i H' => Ex H1 H' ∧ ∃ kvs, H' D = some (.dK kvs) ∧ PgV K H' kvs (lackP p q (ns.take i))) ⟨Ex.new hD, [], upd_same, by
      rw [List.take_zero]
      exact .nil⟩ (fun i H' hi p => ex_l p.1 hL1) ?_ ?_
    · rintro i x H' H'' hi ⟨e2, kvs, hkD, hkv⟩ ⟨rfl, hx⟩
      have hi' : i < ns.length := by simpa using hi
      have hn : ns[i]? = some ns[i] := List.getElem?_eq_getElem hi'
      have hx' : x = .str (ofL ns[i]) := by
        rw [List.getElem?_map, List.getElem?_map, hn] at hx
        exact (Option.some.inj hx).symm
      have hmem : ns[i] ∈ q.map (·.1) := hns.mem_iff.mp (List.getElem_mem hi')
      obtain ⟨s, hs⟩ := getP_some hmem
      have hno : ns[i] ∉ (lackP p q (ns.take i)).map (·.1) := fun z => by
        have := (lackP_sub p q (ns.take i)).subset z
        have hsp : ns = ns.take i ++ ns.drop i := (List.take_append_drop i ns).symm
        rw [hsp, List.nodup_append] at hnd
        refine hnd.2.2 _ this ns[i] ?_ rfl
        rw [List.drop_eq_getElem_cons hi']
        exact List.mem_cons_self
      have hsucc := lackP_succ (p := p) hn hs
      generalize ns[i] = n at hx' hs hno hsucc
      subst hx'
      have eH : Ex H H'' := e1.trans e2
      have hp2 := hp.mono eH
      have hq2 := hq.mono eH
      refine ⟨rfl, ?_⟩
      have hT : EvT (tNot (tB (tCall (spReaches K) [] E (tCons (tCall (spShareOf K) [] E (tCons (tVar 0) (tCons (tVar 2) tNil))) (tCons (tDGet (tVar 1) (tVar 2)) tNil))))) [some (.ref a), some (.ref b), some (.str (ofL n))] H'' (!reachB ((getP p n).getD (0, 0)) s) := by
        refine et_not (et_B ?_)
        exact x_reaches (x_shareOf (ev_var rfl) (ev_var rfl) hp2) (x_dget (ev_var rfl) (ev_var rfl) hq2 hs)
      refine hT H'' (Ex.refl _) _ fun H3 e3 => ?_
      by_cases c : reachB ((getP p n).getD (0, 0)) s = true
      · rw [c, if_neg (by simp)]
        rw [if_pos c] at hsucc
        exact ⟨e2.trans e3, kvs, e3 _ _ hkD, by rw [hsucc]; exact hkv.mono e3⟩
      · rw [Bool.not_eq_true] at c
        rw [c, if_pos (by rfl)]
        rw [c, if_neg (by simp)] at hsucc
        refine ⟨.str (ofL n), rfl, ?_⟩
        refine x_dget (K := K) (ev_var rfl) (ev_var rfl) hq2 hs H3 e3 _ fun v H4 e4 hv => ?_
        obtain ⟨r, rfl, hr4⟩ := hv
        have hkv4 := (hkv.mono e3).mono e4
        have hD4 := e4 _ _ (e3 _ _ hkD)
        have hlen := hkv.len
        have hle := (lackP_sub p q (ns.take i)).length_le
        rw [List.length_map, List.length_take] at hle
        refine ⟨kvs, .inr (ofL n), rfl, hD4, sz_lt (by rw [hlen]; have := hns.length_eq; rw [List.length_map] at this; omega), Ex.mut (e2.trans (e3.trans e4)) hD, _, upd_same, ?_⟩
        rw [hsucc, ← putP_new hno]
        exact (hkv4.put hr4).to fun _ _ h => upd_t hD4 h
    · rintro H' ⟨e2, kvs, hkD, hkv⟩
      have hlen : ((ns.map ofL).map V.str).length = ns.length := by simp
      rw [hlen, List.take_length] at hkv
      have hsub := lackP_sub p q ns
      refine k _ _ (e1.trans e2) ⟨D, ns, rfl, fresh_back e1 hD, ⟨kvs, hkD, hkv, hsub.nodup hnd, fun e he => ?_, ?_⟩, hns, hris⟩
      · have : e.1 ∈ q.map (·.1) := hns.mem_iff.mp (hsub.subset (List.mem_map.mpr ⟨e, he, rfl⟩))
        obtain ⟨e', h1, h2⟩ := List.mem_map.mp this
        rw [← h2]
        exact hb4 e' h1
      · have h1 := hsub.length_le
        have h2 := hns.length_eq
        rw [List.length_map] at h1 h2
        omega
end

/-! ### a page that is walked by its names -/
section
variable {K : PySem.W.Frag} {σ : L2.St} {H H' : Hp} {te td : TE}
/-- [e for k in d] -/
theorem el_lockKeys {d : Addr} {kvs : List (Key × V)} {i : Nat} {vs : List Nat} (vals : List V) (hv : vals.length = kvs.length) (hd : H d = some (.dK kvs)) (h : ∀ H', Ev td σ H' (.ref d)) (hz : kvs.length ≤ 30000)
    (hw : ∀ x, wipe ((wipe σ vs).set i (some x)) vs = wipe σ vs) (he : ∀ (m : Nat) (kv : Key × V) (u : V), kvs[m]? = some kv → vals[m]? = some u → ∀ od H1, Ex (upd H d (.frz od (.dK kvs))) H1 → Ev te ((wipe σ vs).set i (some (kV kv.1))) H1 u) :
    EvL (tLockE (tLc (iKeys td) (gName i) tYes te vs)) σ H vals := fun H0 e Q q => by
  refine ⟨d, .dK kvs, e _ _ hd, trivial, fun od => ?_⟩
  refine h _ _ (Ex.refl _) _ fun H2 e2 => ?_
  have hd2 : H2 d = some (.frz od (.dK kvs)) := e2 d _ upd_same
  have e02 : Ex (upd H d (.frz od (.dK kvs))) H2 := (ex_upd2 e).trans e2
  refine ⟨d, od, rfl, .inl ⟨kvs, hd2, fun Dl hD => ?_⟩⟩
  refine lc_it (walk_keys (d := d) (o := od) (kvs := kvs)) (Cw H2 (fun _ => true) (fun i => vals[i]?.getD .non) Dl) ⟨hD, Ex.new hD, upd_same⟩ (fun _ H' _ p => p.2.1 d _ hd2) (fun m x H' H'' hi p y => ?_) (fun H' p => ?_)
  · obtain ⟨rfl, k, v, hkv, rfl⟩ := y
    have hi' : m < vals.length := by omega
    have hu : vals[m]? = some vals[m] := List.getElem?_eq_getElem hi'
    refine ⟨hw _, ?_⟩
    refine cw_turn p (by omega) et_yes (fun _ => ?_)
    rw [hu]
    exact he m (k, v) vals[m] hkv hu od H2 e02
  · have hne : Dl ≠ d := fun z => by
      rw [z, hd2] at hD
      cases hD
    refine ⟨p.2.1 d _ hd2, q Dl _ (lock_free (e _ _ hd) e2 hD) (unlock (e _ _ hd) (e2.trans p.2.1)) ?_⟩
    rw [upd_ne hne, p.2.2, given_all, ← hv, map_range_get vals .non (fun x => x), List.map_id']
end
def knowsB (p q : Pg) : Bool := q.all fun e => reachB ((getP p e.1).getD (0, 0)) e.2
section
variable {P : Program} {w : World} {K : PySem.W.Frag} {mg : Str → Option Value} {base : Heap}
abbrev spKnows (K : PySem.W.Frag) : Sp := SpF (fun x : (Addr × Addr) × Pg × Pg => [.ref x.1.1, .ref x.1.2]) (fun x H => PgRd K H x.1.1 x.2.1 ∧ PgAt K H x.1.2 x.2.2) (fun x _ => Is (.bl (knowsB x.2.1 x.2.2)))
theorem x_knows {σ : L2.St} {H : Hp} {ta tb : TE} {E : XK} {a b : Addr} {p q : Pg} (h1 : Ev ta σ H (.ref a)) (h2 : Ev tb σ H (.ref b)) (hp : PgRd K H a p) (hq : PgAt K H b q) :
    Ev (tCall (spKnows K) [] E (tCons ta (tCons tb tNil))) σ H (.bl (knowsB p q)) := ev_x (x_call2 (x_ev h1) (x_ev h2) (by
  rintro _ _ H1 e rfl rfl
  exact sx_of ((a, b), p, q) (fun H2 e2 => ⟨hp.mono (e.trans e2), hq.mono (e.trans e2)⟩) fun _ _ _ e2 _ h => h))
theorem ok_knows (T : Txt K mg) : FnOk P w K mg base CX0 2 T.a_knows T.d_knows ["one", "other"] (spKnows K) := by
  refine T.h_knows.F.ok sc_knows (fun vs H Q E h => ?_) (fun cdv A outer s H vs Q E hr h => ?_)
  · obtain ⟨c, rfl, _⟩ := h
    rfl
  · obtain ⟨⟨⟨a, b⟩, p, q⟩, rfl, ⟨hp, hq⟩, k⟩ := h
    simp only at hp hq k
    refine ⟨_, (pss_one (ps_ret (pe_callB (cr_all rfl) (by rfl) T.n_all (by decide +kernel) (pa_cons (pe_lock (pe_lc (own := [("name", 2)]) (by rfl) sc_knows.nd (pi_keys (pv 1)) (blkOk_by (own := [("name", 2)]) (N := ["one", "other", "name"]) (sc := defScope s_knows) (by decide +kernel)) (fun _ _ _ _ _ => (pg_name (i := 2) sc_knows.nd rfl (by first | exact Or.inl rfl | exact Or.inr rfl))) (fun _ _ _ _ _ => pts_nil) (fun _ _ _ _ _ => (pe_call (ok_reaches T) (hr.mono (by decide)) rfl T.h_reaches.m T.h_reaches.F.kp T.h_reaches.b .nil pass0 (pa_cons (pe_call (ok_share_of T) (hr.mono (by decide)) rfl T.h_share_of.m T.h_share_of.F.kp T.h_share_of.b .nil pass0 (pa_cons (pv 0) (pa_cons (pv 2) pa_nil))) (pa_cons (pe_dget (hu_of hr) (pv 1) (pv 2) (fun _ _ => rfl)) pa_nil)))))) pa_nil)))), ?_⟩
    obtain ⟨kb, hb1, hb2, hb3, hb4, hb5⟩ := id hq
    refine s_ret (x_all (bs := q.map fun e => reachB ((getP p e.1).getD (0, 0)) e.2) ?_) fun H1 e1 => k _ _ e1 ?_
    · have hlk : ∀ od, PgRd K (upd H b (.frz od (.dK kb))) a p ∧ PgRd K (upd H b (.frz od (.dK kb))) b q := fun od => ⟨hp.lock hb1, hq.rd.lock hb1⟩
      refine el_lockKeys ((q.map fun e => reachB ((getP p e.1).getD (0, 0)) e.2).map V.bl) ?hv hb1 ?h ?hz ?hw ?_
      case hv => rw [List.length_map, List.length_map, hb2.len]
      case h => intro H'; exact ev_var rfl
      case hz => rw [hb2.len]; omega
      case hw => intro _; rfl
      intro m kv u hkv hu od H3 e3
      obtain ⟨e, hem, hk, _⟩ := hb2.at hkv
      rw [List.getElem?_map, List.getElem?_map, hem] at hu
      obtain rfl := Option.some.inj hu
      obtain ⟨hp3, hq3⟩ := hlk od
      rw [hk]
      exact x_reaches (x_shareOf (ev_var rfl) (ev_var rfl) (hp3.mono e3)) (x_dget (ev_var rfl) (ev_var rfl) (hq3.mono e3) (getP_mem hb3 e (List.mem_of_getElem? hem)))
    · show _ = _
      unfold knowsB
      rw [List.all_map]
      rfl
end

def numBy (c : Int) : Int := if c % 5 < 2 then c / 5 % 3 * (c % 5) else if c % 5 = 2 then c / 5 % 1000 else if c % 5 = 3 then c / 5 % (10 ^ (60 : Int).toNat) else 10 ^ (60 : Int).toNat - 1 - c / 5 % 1000
section
variable {P : Program} {w : World} {K : PySem.W.Frag} {mg : Str → Option Value} {base : Heap}
abbrev spNum : Sp := SpF (fun c : Int => [.int c]) (fun _ _ => True) (fun c _ => Is (.int (numBy c)))
theorem sv_num {c : Int} {H : Hp} : SpV spNum [.int c] H (.int (numBy c)) := sv_of (sx_of c (fun _ _ => trivial) fun _ _ _ _ _ h => h)
theorem ok_law_number_by (T : Txt K mg) : FnOk P w K mg base CX0 1 T.a_law_number_by T.d_law_number_by ["_law_cell"] spNum := by
  refine T.h_law_number_by.F.ok sc_law_number_by (fun vs H Q E h => ?_) (fun cdv A outer s H vs Q E hr h => ?_)
  · obtain ⟨c, rfl, _⟩ := h
    rfl
  · obtain ⟨c, rfl, _, k⟩ := h
    refine ⟨_, (pss_cons (ps_set (i := 1) sc_law_number_by.nd rfl (by first | exact Or.inl rfl | exact Or.inr rfl) (pe_op op_mod (pv 0) pe_int)) (pss_cons (ps_if (pt_cmpR op_lt (pv 1) pe_int (nomark _)) (pss_one (ps_ret (pe_op op_mul (pe_op op_mod (pe_op op_fdiv (pv 0) pe_int) pe_int) (pv 1)))) pss_nil) (pss_cons (ps_if (pt_cmpR op_eq (pv 1) pe_int (nomark _)) (pss_one (ps_ret (pe_op op_mod (pe_op op_fdiv (pv 0) pe_int) pe_int))) pss_nil) (pss_cons (ps_if (pt_cmpR op_eq (pv 1) pe_int (nomark _)) (pss_one (ps_ret (pe_op op_mod (pe_op op_fdiv (pv 0) pe_int) (pe_op op_pow pe_int pe_int)))) pss_nil) (pss_one (ps_ret (pe_op op_sub (pe_op op_sub (pe_op op_pow pe_int pe_int) pe_int) (pe_op op_mod (pe_op op_fdiv (pv 0) pe_int) pe_int)))))))), ?_⟩
    refine q_asg (by walk_at "ev") fun H1 e1 => ?_
    refine q_when (by walk_at "ev") (fun hb H2 e2 => ?_) (fun hb H2 e2 => ?_)
    · refine s_ret (by walk_at "ev") fun H3 e3 => ?_
      refine k _ _ (by walk_at "ex") ?_
      show _ = _
      rw [numBy, if_pos (of_decide_eq_true hb)]
    refine q_when (by walk_at "ev") (fun hc H3 e3 => ?_) (fun hc H3 e3 => ?_)
    · refine s_ret (by walk_at "ev") fun H4 e4 => ?_
      refine k _ _ (by walk_at "ex") ?_
      show _ = _
      rw [numBy, if_neg (of_decide_eq_false hb), if_pos (V.int.inj (of_decide_eq_true hc))]
    refine q_when (by walk_at "ev") (fun hd H4 e4 => ?_) (fun hd H4 e4 => ?_)
    · refine s_ret (by walk_at "ev") fun H5 e5 => ?_
      refine k _ _ (by walk_at "ex") ?_
      show _ = _
      rw [numBy, if_neg (of_decide_eq_false hb), if_neg (fun z => of_decide_eq_false hc (congrArg V.int z)), if_pos (V.int.inj (of_decide_eq_true hd))]
    · refine s_ret (by walk_at "ev") fun H5 e5 => ?_
      refine k _ _ (by walk_at "ex") ?_
      show _ = _
      rw [numBy, if_neg (of_decide_eq_false hb), if_neg (fun z => of_decide_eq_false hc (congrArg V.int z)), if_neg (fun z => of_decide_eq_false hd (congrArg V.int z))]
end
local macro_rules | `(tactic| walk_at "sv") => `(tactic| exact sv_num)

/-! ### the numbers are in bounds -/
abbrev BIG : Int := 1000000000000000000000000000000000000000000000000000000000000
theorem big_eq : (10 : Int) ^ (60 : Int).toNat = BIG := by decide +kernel
theorem numBy_bd (c : Int) : 0 ≤ numBy c ∧ numBy c < BIG := by
  have a1 := Int.emod_nonneg (c / 5) (by decide : (3 : Int) ≠ 0)
  have a2 := Int.emod_lt_of_pos (c / 5) (by decide : (0 : Int) < 3)
  have b1 := Int.emod_nonneg (c / 5) (by decide : (1000 : Int) ≠ 0)
  have b2 := Int.emod_lt_of_pos (c / 5) (by decide : (0 : Int) < 1000)
  have c1 := Int.emod_nonneg (c / 5) (by decide : BIG ≠ 0)
  have c2 := Int.emod_lt_of_pos (c / 5) (by decide : (0 : Int) < BIG)
  have d1 := Int.emod_nonneg c (by decide : (5 : Int) ≠ 0)
  unfold numBy
  rw [big_eq]
  split
  · rename_i h
    have : c % 5 = 0 ∨ c % 5 = 1 := by omega
    rcases this with e | e <;> rw [e] <;> unfold BIG at * <;> omega
  · split
    · unfold BIG at *; omega
    · split
      · exact ⟨c1, c2⟩
      · unfold BIG at *; omega

/-! ### the law's names -/
def lowC' (c : Nat) : Prop := 97 ≤ c ∧ c ≤ 122
def letter (i : Int) : Nat := 97 + (i % 26).toNat
theorem letter_low (i : Int) : lowC' (letter i) := by
  unfold letter lowC'
  have := Int.emod_nonneg i (by decide : (26 : Int) ≠ 0)
  have := Int.emod_lt_of_pos i (by decide : (0 : Int) < 26)
  omega
def alpha : List Nat := (List.range 26).map (· + 97)
theorem alpha_str : Str.ofString "abcdefghijklmnopqrstuvwxyz" = ofL alpha := by decide +kernel
theorem alpha_at (i : Int) : alpha[(i % 26).toNat]? = some (letter i) := by
  have h1 := Int.emod_nonneg i (by decide : (26 : Int) ≠ 0)
  have h2 := Int.emod_lt_of_pos i (by decide : (0 : Int) < 26)
  unfold alpha letter
  rw [List.getElem?_map, List.getElem?_range (by omega)]
  show some _ = some _
  congr 1
  exact Nat.add_comm _ _
theorem alpha_ix (i : Int) : atI alpha (i % 26) = some (letter i) := by
  have h1 := Int.emod_nonneg i (by decide : (26 : Int) ≠ 0)
  have e0 : (((i % 26).toNat : Nat) : Int) = i % 26 := by omega
  rw [← e0]
  exact atI_nat (alpha_at i)
def nameBase (c : Int) : List Nat := (List.range (1 + c % 8).toNat).map fun (k : Nat) => letter (c / 8 + (k : Int) * (1 + c / 208 % 25))
def nameBy (c : Int) : List Nat := if c / 5200 % 2 = 1 then (nameBase c).set (c / 10400 % (nameBase c).length).toNat (letter (c / 83200)) else nameBase c
theorem nameBase_len (c : Int) : ((nameBase c).length : Int) = 1 + c % 8 := by
  unfold nameBase
  rw [List.length_map, List.length_range]
  have h1 := Int.emod_nonneg c (by decide : (8 : Int) ≠ 0)
  omega
theorem nameBy_len (c : Int) : ((nameBy c).length : Int) = 1 + c % 8 := by
  unfold nameBy
  split
  · rw [List.length_set]; exact nameBase_len c
  · exact nameBase_len c
theorem nameBy_low (c : Int) : ∀ x ∈ nameBy c, lowC' x := by
  have hb : ∀ x ∈ nameBase c, lowC' x := by
    intro x hx
    unfold nameBase at hx
    obtain ⟨k, _, rfl⟩ := List.mem_map.mp hx
    exact letter_low _
  intro x hx
  unfold nameBy at hx
  split at hx
  · rcases List.mem_or_eq_of_mem_set hx with h | rfl
    · exact hb x h
    · exact letter_low _
  · exact hb x hx
/-- a name by its signs -/
def GoodN (cs : List Nat) : Prop := 1 ≤ cs.length ∧ cs.length ≤ 8 ∧ ∀ x ∈ cs, lowC' x
theorem nameBy_good (c : Int) : GoodN (nameBy c) := by
  have h := nameBy_len c
  have h1 := Int.emod_nonneg c (by decide : (8 : Int) ≠ 0)
  have h2 := Int.emod_lt_of_pos c (by decide : (0 : Int) < 8)
  exact ⟨by omega, by omega, nameBy_low c⟩
section
variable {P : Program} {w : World} {K : PySem.W.Frag} {mg : Str → Option Value} {base : Heap}
abbrev spNameBy : Sp := SpF (fun c : Int => [.int c]) (fun _ _ => True) (fun c _ => Is (.str (ofL (nameBy c))))
theorem sv_nameBy {c : Int} {H : Hp} : SpV spNameBy [.int c] H (.str (ofL (nameBy c))) := sv_of (sx_of c (fun _ _ => trivial) fun _ _ _ _ _ h => h)
theorem ok_law_name_by (T : Txt K mg) : FnOk P w K mg base CX0 1 T.a_law_name_by T.d_law_name_by ["_law_cell"] spNameBy := by
  refine T.h_law_name_by.F.ok sc_law_name_by (fun vs H Q E h => ?_) (fun cdv A outer s H vs Q E hr h => ?_)
  · obtain ⟨c, rfl, _⟩ := h
    rfl
  · obtain ⟨c, rfl, _, k⟩ := h
    refine ⟨_, (pss_cons (ps_set (i := 1) sc_law_name_by.nd rfl (by first | exact Or.inl rfl | exact Or.inr rfl) pe_str) (pss_cons (ps_set (i := 2) sc_law_name_by.nd rfl (by first | exact Or.inl rfl | exact Or.inr rfl) (pe_op op_add pe_int (pe_op op_mod (pe_op op_fdiv (pv 0) pe_int) pe_int))) (pss_cons (ps_setLc (i := 3) (own := [("_law_k", 4)]) (g := _)  rfl sc_law_name_by.nd rfl rfl (sw_true rfl rfl rfl (by decide +kernel)) (pi_range1 (by rfl) T.n_range (pa_cons (pe_op op_add pe_int (pe_op op_mod (pv 0) pe_int)) pa_nil)) (blkOk_by (own := [("_law_k", 4)]) (N := ["_law_cell", "_law_signs", "_law_step", "_law_word", "_law_k"]) (sc := defScope s_law_name_by) (by decide +kernel)) (fun _ _ _ _ _ => (pg_name (i := 4) sc_law_name_by.nd rfl (by first | exact Or.inl rfl | exact Or.inr rfl))) (fun _ _ _ _ _ => pts_nil) (fun _ _ _ _ _ => (pe_ix ix_str (pv 1) (pe_op op_mod (pe_op op_add (pe_op op_fdiv (pv 0) pe_int) (pe_op op_mul (pv 4) (pv 2))) pe_int) (fun _ _ => rfl)))) (pss_cons (ps_if (pt_cmpR op_eq (pe_op op_mod (pe_op op_fdiv (pv 0) pe_int) pe_int) pe_int (nomark _)) (pss_one (ps_asg (pe_ix ix_str (pv 1) (pe_op op_mod (pe_op op_fdiv (pv 0) pe_int) pe_int) (fun _ _ => rfl)) (pg_sub (pv 3) (pe_op op_mod (pe_op op_fdiv (pv 0) pe_int) (pe_callB call_len_seq (by rfl) T.n_len PySem.boot_len (pa_cons (pv 3) pa_nil))) set_list))) pss_nil) (pss_one (ps_ret (pe_join pe_str (pv 3)))))))), ?_⟩
    have h1 := Int.emod_nonneg c (by decide : (8 : Int) ≠ 0)
    have h2 := Int.emod_lt_of_pos c (by decide : (0 : Int) < 8)
    have h3 := Int.emod_nonneg (c / 208) (by decide : (25 : Int) ≠ 0)
    have h4 := Int.emod_lt_of_pos (c / 208) (by decide : (0 : Int) < 25)
    have hl := nameBase_len c
    refine q_asg (v := .str (ofL alpha)) (ev_is ev_c (by rw [alpha_str])) fun H1 e1 => ?_
    refine q_asg (by walk_at "ev") fun H2 e2 => ?_
    refine q_asgL (el_lcR1 (n := 1 + c % 8) (fun _ => true) (fun i => .str (sg (letter (c / 8 + (i : Int) * (1 + c / 208 % 25))))) (ea_cons (by walk_at "ev") ea_nil) (by omega) (fun _ => rfl) (fun i H3 e3 hi => et_yes) (fun i H3 e3 hi _ => ?_)) fun p H3 hp e3 h3 => ?_
    · refine ev_op (y := .int ((c / 8 + (i : Int) * (1 + c / 208 % 25)) % 26)) (ev_var rfl) ?_ (rv_ixS (by rw [ofL_len]; decide) (alpha_ix _))
      exact ev_op (ev_op (ev_op (ev_var rfl) ev_c (rv_I ⟨by decide, by decide⟩)) (ev_op (ev_var rfl) (ev_var rfl) (rv_I (Or.inl ⟨by omega, by omega⟩))) rv_I0) ev_c (rv_I (by show (0 : Int) < 26; decide))
    rw [given_all] at h3
    have h3' : H3 p = some (.lst (((nameBase c).map sg).map V.str)) := by
      rw [h3]
      unfold nameBase
      rw [List.map_map, List.map_map]
      rfl
    clear h3
    refine q_when (b := decide (V.int (c / 5200 % 2) = V.int 1)) (by walk_at "ev") (fun hb H4 e4 => ?_) (fun hb H4 e4 => ?_)
    · have hb' := V.int.inj (of_decide_eq_true hb)
      have hn : (0 : Int) < (nameBase c).length := by omega
      have hm1 : 0 ≤ c / 10400 % ((nameBase c).length : Int) := Int.emod_nonneg _ (by omega)
      have hm2 : c / 10400 % ((nameBase c).length : Int) < (nameBase c).length := Int.emod_lt_of_pos _ hn
      refine s_setL (l := p) (xs := ((nameBase c).map sg).map V.str) (j := (c / 10400 % ((nameBase c).length : Int)).toNat) (v := .str (sg (letter (c / 83200)))) (e4 _ _ h3') ?_ (ev_var rfl) ?_ (by simp; omega) fun H5 e5 => ?_
      · exact ev_op (y := .int (c / 83200 % 26)) (ev_var rfl) (by walk_at "ev") (rv_ixS (by rw [ofL_len]; decide) (alpha_ix _))
      · have e5 : (((c / 10400 % ((nameBase c).length : Int)).toNat : Nat) : Int) = c / 10400 % ((nameBase c).length : Int) := by omega
        rw [e5]
        exact ev_op (by walk_at "ev") (ev_is (ev_cb (ea_cons (ev_var rfl) ea_nil) (rc_lenL (sq_of (e4 _ _ h3')))) (by simp)) (rv_I hn)
      dsimp only
      have e6 : (((nameBase c).map sg).map V.str).set (c / 10400 % ((nameBase c).length : Int)).toNat (.str (sg (letter (c / 83200)))) = ((nameBy c).map sg).map V.str := by
        unfold nameBy
        rw [if_pos hb', List.map_set, List.map_set]
      rw [e6]
      have hg := nameBy_good c
      refine s_ret (x_join (cs := nameBy c) ev_c (x_varL rfl (sq_of upd_same)) (by have := hg.2.1; omega)) fun H6 e6 => k _ _ ?_ rfl
      refine Ex.trans (Ex.mut ?_ (fresh_back e1 (fresh_back e2 hp))) e6
      walk_at "ex"
    · have hb' : ¬ c / 5200 % 2 = 1 := fun z => of_decide_eq_false hb (congrArg V.int z)
      have e6 : nameBase c = nameBy c := by
        unfold nameBy
        rw [if_neg hb']
      rw [e6] at h3'
      have hg := nameBy_good c
      refine s_ret (x_join (cs := nameBy c) ev_c (x_varL rfl (sq_of (e4 _ _ h3'))) (by have := hg.2.1; omega)) fun H5 e5 => k _ _ (by walk_at "ex") rfl
def mixed (c k : Int) : Int := (c % 1000000007 + 7919 * k + 11) * 48271 % 2147483647
theorem mixed_nn (c k : Int) : 0 ≤ mixed c k := Int.emod_nonneg _ (by decide)
abbrev spMixed : Sp := SpF (fun x : Int × Int => [.int x.1, .int x.2]) (fun _ _ => True) (fun x _ => Is (.int (mixed x.1 x.2)))
theorem sv_mixed {c k : Int} {H : Hp} : SpV spMixed [.int c, .int k] H (.int (mixed c k)) := sv_of (sx_of (c, k) (fun _ _ => trivial) fun _ _ _ _ _ h => h)
theorem ok_law_mixed (T : Txt K mg) : FnOk P w K mg base CX0 1 T.a_law_mixed T.d_law_mixed ["_law_cell", "_law_k"] spMixed := by
  refine T.h_law_mixed.F.ok sc_law_mixed (fun vs H Q E h => ?_) (fun cdv A outer s H vs Q E hr h => ?_)
  · obtain ⟨c, rfl, _⟩ := h
    rfl
  · obtain ⟨⟨c, i⟩, rfl, _, k⟩ := h
    refine ⟨_, (pss_one (ps_ret (pe_op op_mod (pe_op op_mul (pe_op op_add (pe_op op_add (pe_op op_mod (pv 0) pe_int) (pe_op op_mul pe_int (pv 1))) pe_int) pe_int) pe_int))), ?_⟩
    refine s_ret (by walk_at "ev") fun H1 e1 => ?_
    exact k _ _ e1 rfl
end
local macro_rules | `(tactic| walk_at "sv") => `(tactic| exact sv_nameBy)
local macro_rules | `(tactic| walk_at "sv") => `(tactic| exact sv_mixed)

/-! ### pages that are made -/
def ShPos (s : Int × Int) : Prop := 0 ≤ s.1 ∧ 0 ≤ s.2 ∧ ¬(s.1 = 0 ∧ s.2 = 0)
def PgPos (p : Pg) : Prop := ∀ e ∈ p, ShPos e.2
theorem putP_pos {p : Pg} {n : Nm} {s : Int × Int} (h : PgPos p) (hs : ShPos s) : PgPos (putP p n s) := by
  intro e he
  unfold putP at he
  split at he
  · obtain ⟨x, hx, rfl⟩ := List.mem_map.mp he
    by_cases c : x.1 = n
    · rw [if_pos c]; exact hs
    · rw [if_neg c]; exact h x hx
  · rcases List.mem_append.mp he with he | he
    · exact h e he
    · rw [List.mem_singleton.mp he]; exact hs
section
variable {K : PySem.W.Frag} {σ : L2.St} {H H' : Hp} {ta tb te td tk tv : TE} {x y z v : V} {D : Ends} {tz : TS} {P P1 P2 : VP}
theorem ev_op2X {r : R2} [Mono P1] (h1 : EvX ta σ H P1) (h2 : EvX tb σ H P2) (hr : ∀ a b H1, Ex H H1 → P1 a H1 → P2 b H1 → RV r a b H1 z) : Ev (tOp r ta tb) σ H z := fun H1 e Q q =>
  h1 H1 e _ fun a H2 e2 ha => h2 H2 (e.trans e2) _ fun b H3 e3 hb => hr a b H3 ((e.trans e2).trans e3) (Mono.mono e3 ha) hb H3 (Ex.refl H3) Q fun H4 e4 => q H4 ((e2.trans e3).trans e4)
theorem ev_eqT {a b c d : Int} (h1 : EvX ta σ H (Tp K [.int a, .int b])) (h2 : EvX tb σ H (Tp K [.int c, .int d])) : Ev (tOp (rEqD K) ta tb) σ H (.bl (decide (a = c) && decide (b = d))) := ev_op2X h1 h2 (by
  rintro _ _ H1 e ⟨p, rfl, hp⟩ ⟨q, rfl, hq⟩
  rw [← eqv_two]
  exact rv_eqD (fun H2 e2 => dp_two (ex_t e2 hp)) (fun H2 e2 => dp_two (ex_t e2 hq)) (shaped_two _ _) (shaped_two _ _))
theorem ev_neT {a b c d : Int} (h1 : EvX ta σ H (Tp K [.int a, .int b])) (h2 : EvX tb σ H (Tp K [.int c, .int d])) : Ev (tOp (rNeD K) ta tb) σ H (.bl (!(decide (a = c) && decide (b = d)))) := ev_op2X h1 h2 (by
  rintro _ _ H1 e ⟨p, rfl, hp⟩ ⟨q, rfl, hq⟩
  rw [← eqv_two]
  exact rv_neD (fun H2 e2 => dp_two (ex_t e2 hp)) (fun H2 e2 => dp_two (ex_t e2 hq)) (shaped_two _ _) (shaped_two _ _))
theorem s_dputX {d : Addr} {kvs : List (Key × V)} {k : Key} (hv : EvX tv σ H P) (hd : Ev td σ H (.ref d)) (hk : Ev tk σ H (kV k)) (h : H d = some (.dK kvs)) (hl : kvs.length < 100000) (hm : ∀ v H1 H2, Ex H1 H2 → P v H1 → P v H2)
    (c : ∀ v H1, Ex H H1 → P v H1 → D.nx σ (upd H1 d (.dK (putK kvs k v)))) : sDPut td tk tv D σ H :=
  hv H (Ex.refl H) _ fun v H1 e1 p1 => hd H1 e1 _ fun H2 e2 => hk H2 (e1.trans e2) _ fun H3 e3 => ⟨d, _, rfl, DPut.k (((e1.trans e2).trans e3) _ _ h) (sz_lt hl), c v H3 ((e1.trans e2).trans e3) (hm v H1 H3 (e2.trans e3) p1)⟩
theorem PgAt.put {d q : Addr} {p : Pg} {n : Nm} {s : Int × Int} {kvs : List (Key × V)} (hd : H d = some (.dK kvs)) (h : PgV K H kvs p ∧ (p.map (·.1)).Nodup ∧ (∀ e ∈ p, NmOk e.1) ∧ p.length ≤ 1000) (hn : NmOk n) (hq : SqT K H q [.int s.1, .int s.2]) (hl : p.length < 1000) :
    PgAt K (upd H d (.dK (putK kvs (.inr (ofL n)) (.ref q)))) d (putP p n s) :=
  ⟨_, upd_same, (h.1.put hq).to fun _ _ => upd_t hd, putP_nd h.2.1, putP_ok h.2.2.1 hn, Nat.le_trans putP_len hl⟩
theorem s_pgput {d : Addr} {p : Pg} {n : Nm} {s : Int × Int} (hv : EvX tv σ H (Tp K [.int s.1, .int s.2])) (hd : Ev td σ H (.ref d)) (hk : Ev tk σ H (.str (ofL n))) (hp : PgAt K H d p) (hn : NmOk n) (hl : p.length < 1000)
    (c : ∀ H1 kvs, Ex H H1 → PgAt K (upd H1 d (.dK kvs)) d (putP p n s) → D.nx σ (upd H1 d (.dK kvs))) : sDPut td tk tv D σ H := by
  obtain ⟨kvs, h1, h2, h3, h4, h5⟩ := hp
  refine s_dputX (k := .inr (ofL n)) hv hd hk h1 (by rw [h2.len]; omega) (fun v H1 H2 e ⟨q, a, b⟩ => ⟨q, a, ex_t e b⟩) ?_
  rintro _ H1 e1 ⟨q, rfl, hq⟩
  exact c H1 _ e1 (PgAt.put (e1 _ _ h1) ⟨h2.mono e1, h3, h4, h5⟩ hn hq hl)
theorem PgAt.upd {d a : Addr} {p : Pg} {kvs : List (Key × V)} {o : HO} (hd : H d = some (.dK kvs)) (hne : a ≠ d) (h : PgAt K H a p) : PgAt K (L2.upd H d o) a p :=
  let ⟨ks, h1, h2, h3⟩ := h; ⟨ks, by rw [upd_ne hne]; exact h1, h2.to fun _ _ => upd_t hd, h3⟩
theorem PgRd.upd {d a : Addr} {p : Pg} {kvs : List (Key × V)} {o : HO} (hd : H d = some (.dK kvs)) (hne : a ≠ d) (h : PgRd K H a p) : PgRd K (L2.upd H d o) a p := by
  obtain ⟨ks, h1, h2, h3⟩ := h
  refine ⟨ks, ?_, h2.to fun _ _ => upd_t hd, h3⟩
  rcases h1 with h1 | ⟨f, h1⟩
  · exact .inl (by rw [upd_ne hne]; exact h1)
  · exact .inr ⟨f, by rw [upd_ne hne]; exact h1⟩
theorem PgAt.nil {d : Addr} (h : H d = some (.dK [])) : PgAt K H d [] := ⟨[], h, .nil, List.nodup_nil, (fun e he => by cases he), by decide⟩
end
def PgNew (K : PySem.W.Frag) (H : Hp) (n : Int) : VP := fun v H2 => ∃ d p, v = .ref d ∧ H d = none ∧ PgAt K H2 d p ∧ PgPos p ∧ (p.length : Int) ≤ n
theorem good_nm {cs : List Nat} (h : GoodN cs) : NmOk cs := ⟨h.1, h.2.1, fun x hx => by
  have := h.2.2 x hx
  unfold lowC' at this
  omega⟩
section
variable {P : Program} {w : World} {K : PySem.W.Frag} {mg : Str → Option Value} {base : Heap}
abbrev spPageBy (K : PySem.W.Frag) : Sp := SpF (fun x : Int × Int × Int => [.int x.1, .int x.2.1, .int x.2.2]) (fun x _ => 0 ≤ x.2.2 ∧ x.2.2 ≤ 200) (fun x H => PgNew K H x.2.2)
theorem x_pageBy {σ : L2.St} {H : Hp} {ta tb tc : TE} {E : XK} {a b n : Int} (h1 : Ev ta σ H (.int a)) (h2 : Ev tb σ H (.int b)) (h3 : Ev tc σ H (.int n)) (hn : 0 ≤ n ∧ n ≤ 200) :
    EvX (tCall (spPageBy K) [] E (tCons ta (tCons tb (tCons tc tNil)))) σ H (PgNew K H n) := fun H1 e Q q =>
  (ea_cons h1 (ea_cons h2 (ea_cons h3 ea_nil))) H1 e _ fun H2 e2 => ⟨(a, b, n), rfl, hn, fun v H3 e3 ⟨d, p, hv, hp, h⟩ => q v H3 (e2.trans e3) ⟨d, p, hv, fresh_back (e.trans e2) hp, h⟩⟩
theorem ok_law_page_by (T : Txt K mg) : FnOk P w K mg base CX0 2 T.a_law_page_by T.d_law_page_by ["_law_names", "_law_shares", "_law_size"] (spPageBy K) := by
  refine T.h_law_page_by.F.ok sc_law_page_by (fun vs H Q E h => ?_) (fun cdv A outer s H vs Q E hr h => ?_)
  · obtain ⟨c, rfl, _⟩ := h
    rfl
  · obtain ⟨⟨nm, sh, n⟩, rfl, hn, k⟩ := h
    simp only at hn k
    refine ⟨_, (pss_cons (ps_set (i := 3) sc_law_page_by.nd rfl (by first | exact Or.inl rfl | exact Or.inr rfl) pe_dnewK) (pss_cons (ps_for PassesOwn.never rfl (pi_range1 (by rfl) T.n_range (pa_cons (pv 2) pa_nil)) (pg_name (i := 4) sc_law_page_by.nd rfl (by first | exact Or.inl rfl | exact Or.inr rfl)) (pss_cons (ps_set (i := 5) sc_law_page_by.nd rfl (by first | exact Or.inl rfl | exact Or.inr rfl) (pe_tup (pa_cons (pe_call (ok_law_number_by T) (hr.mono (by decide)) rfl T.h_law_number_by.m T.h_law_number_by.F.kp T.h_law_number_by.b .nil pass0 (pa_cons (pe_call (ok_law_mixed T) (hr.mono (by decide)) rfl T.h_law_mixed.m T.h_law_mixed.F.kp T.h_law_mixed.b .nil pass0 (pa_cons (pv 1) (pa_cons (pe_op op_mul pe_int (pv 4)) pa_nil))) pa_nil)) (pa_cons (pe_call (ok_law_number_by T) (hr.mono (by decide)) rfl T.h_law_number_by.m T.h_law_number_by.F.kp T.h_law_number_by.b .nil pass0 (pa_cons (pe_call (ok_law_mixed T) (hr.mono (by decide)) rfl T.h_law_mixed.m T.h_law_mixed.F.kp T.h_law_mixed.b .nil pass0 (pa_cons (pv 1) (pa_cons (pe_op op_add (pe_op op_mul pe_int (pv 4)) pe_int) pa_nil))) pa_nil)) pa_nil)))) (pss_cut (ps_if (pt_cmpR (op_eqD hr.units) (pv 5) (pe_tup (pa_cons pe_int (pa_cons pe_int pa_nil))) (nomark _)) (pss_one (ps_set (i := 5) sc_law_page_by.nd rfl (by first | exact Or.inl rfl | exact Or.inr rfl) (pe_tup (pa_cons pe_int (pa_cons pe_int pa_nil))))) pss_nil) (pss_one (ps_dput (hu_of hr) (pv 3) (pe_call (ok_law_name_by T) (hr.mono (by decide)) rfl T.h_law_name_by.m T.h_law_name_by.F.kp T.h_law_name_by.b .nil pass0 (pa_cons (pe_call (ok_law_mixed T) (hr.mono (by decide)) rfl T.h_law_mixed.m T.h_law_mixed.F.kp T.h_law_mixed.b .nil pass0 (pa_cons (pv 0) (pa_cons (pv 4) pa_nil))) pa_nil)) (pv 5) rfl))))) (pss_one (ps_ret (pv 3))))), ?_⟩
    refine qx_asg x_dnew fun v H1 e1 hv => ?_
    obtain ⟨d, rfl, hd0, hd1⟩ := hv
    refine q_forR1 (n := n) (ea_cons (ev_var rfl) ea_nil) (by omega) (fun i σ' H' => ∃ p s4 s5, σ' = [some (.int nm), some (.int sh), some (.int n), some (.ref d), s4, s5] ∧ Ex H H' ∧ PgAt K H' d p ∧ PgPos p ∧ p.length ≤ i)
      (fun H2 e2 => ⟨[], none, none, rfl, e1.trans e2, PgAt.nil (e2 _ _ hd1), (fun e he => by cases he), Nat.le_refl 0⟩) ?_ ?_
    · rintro i σ' H' hi ⟨p, s4, s5, rfl, eH, hp, hpos, hlen⟩
      refine qx_asg (x_tupT (K := K) (vs := [.int (numBy (mixed sh (2 * (i : Int)))), .int (numBy (mixed sh (2 * (i : Int) + 1)))]) (by walk_at "ev")) fun v H2 e2 hv2 => ?_
      obtain ⟨q, rfl, hq⟩ := hv2
      have b1 := numBy_bd (mixed sh (2 * (i : Int)))
      have b2 := numBy_bd (mixed sh (2 * (i : Int) + 1))
      generalize numBy (mixed sh (2 * (i : Int))) = x at hq b1
      generalize numBy (mixed sh (2 * (i : Int) + 1)) = y at hq b2
      refine q_cut (M := fun σ' H3 => ∃ q s, σ' = [some (.int nm), some (.int sh), some (.int n), some (.ref d), some (.int (i : Int)), some (.ref q)] ∧ Ex H2 H3 ∧ SqT K H3 q [.int s.1, .int s.2] ∧ ShPos s) ?_ ?_
      · refine s_when (et_test (ev_eqT (K := K) (x_varT rfl hq) (x_tupT (K := K) (by walk_at "ev")))) (fun hb H3 e3 => ?_) (fun hb H3 e3 => ?_)
        · refine sx_asg (x_tupT (K := K) (vs := [.int 1, .int 0]) (by walk_at "ev")) fun v H4 e4 hv => ?_
          obtain ⟨q', rfl, hq'⟩ := hv
          exact ⟨q', (1, 0), rfl, e3.trans e4, hq', by decide, by decide, by decide⟩
        · refine ⟨q, (x, y), rfl, e3, ex_t e3 hq, b1.1, b2.1, ?_⟩
          rintro ⟨hx, hy⟩
          simp only at hx hy
          rw [hx, hy] at hb
          cases hb
      rintro σ'' H3 ⟨q', s, rfl, e3, hq', hs⟩
      refine s_pgput (K := K) (p := p) (n := nameBy (mixed nm (i : Int))) (s := s) (x_varT rfl hq') (ev_var rfl) (by walk_at "ev") (hp.mono (e2.trans e3)) (good_nm (nameBy_good _)) (by omega) fun H4 kvs e4 hp4 => ?_
      exact ⟨_, _, _, rfl, Ex.mut (eH.trans ((e2.trans e3).trans e4)) hd0, hp4, putP_pos hpos hs, Nat.le_trans putP_len (by omega)⟩
    · rintro σ' H' ⟨p, s4, s5, rfl, eH, hp, hpos, hlen⟩
      refine s_ret (ev_var rfl) fun H2 e2 => k _ _ (eH.trans e2) ⟨d, p, rfl, hd0, hp.mono e2, hpos, by omega⟩
end

/-! ### what the law says that a page lacks; two pages alike -/
section
variable {K : PySem.W.Frag} {σ : L2.St} {H H' : Hp} {ta tb te td tk tv : TE} {v : V} {P : VP}
theorem ev_ixTp {xs : List V} {i : Int} (h : EvX te σ H (Tp K xs)) (ha : atI xs i = some v) : Ev (tOp (rIxT K) te (tC (.int i))) σ H v := fun H1 e Q q =>
  h H1 e _ fun u H2 e2 hu => by
    obtain ⟨p, rfl, hp⟩ := hu
    exact rv_ixT hp ha H2 (Ex.refl _) Q fun H3 e3 => q H3 (e2.trans e3)
end
theorem not_reach (m s : Int × Int) : (decide (s.1 > m.1) || decide (s.2 > m.2)) = !reachB m s := by
  unfold reachB
  rw [Bool.eq_iff_iff]
  simp
def LwV (K : PySem.W.Frag) (H : Hp) (p q : Pg) : VP := fun v H2 => ∃ d, v = .ref d ∧ H d = none ∧ PgAt K H2 d (lackP p q (q.map (·.1)))
section
variable {P : Program} {w : World} {K : PySem.W.Frag} {mg : Str → Option Value} {base : Heap}
abbrev spLawLack (K : PySem.W.Frag) : Sp := SpF (fun x : (Addr × Addr) × Pg × Pg => [.ref x.1.1, .ref x.1.2]) (fun x H => PgRd K H x.1.1 x.2.1 ∧ PgAt K H x.1.2 x.2.2) (fun x H => LwV K H x.2.1 x.2.2)
theorem x_lawLack {σ : L2.St} {H : Hp} {ta tb : TE} {E : XK} {a b : Addr} {p q : Pg} (h1 : Ev ta σ H (.ref a)) (h2 : Ev tb σ H (.ref b)) (hp : PgRd K H a p) (hq : PgAt K H b q) :
    EvX (tCall (spLawLack K) [] E (tCons ta (tCons tb tNil))) σ H (LwV K H p q) := x_call2 (x_ev h1) (x_ev h2) (by
  rintro _ _ H1 e rfl rfl
  exact sx_of ((a, b), p, q) (fun H2 e2 => ⟨hp.mono (e.trans e2), hq.mono (e.trans e2)⟩) fun _ _ _ e2 _ ⟨d, h1, h2, h3⟩ => ⟨d, h1, fresh_back (e.trans e2) h2, h3⟩)
theorem ok_law_lacking (T : Txt K mg) : FnOk P w K mg base CX0 1 T.a_law_lacking T.d_law_lacking ["_law_one", "_law_other"] (spLawLack K) := by
  refine T.h_law_lacking.F.ok sc_law_lacking (fun vs H Q E h => ?_) (fun cdv A outer s H vs Q E hr h => ?_)
  · obtain ⟨c, rfl, _⟩ := h
    rfl
  · obtain ⟨⟨⟨a, b⟩, p, q⟩, rfl, ⟨hp, hq⟩, k⟩ := h
    simp only at hp hq k
    refine ⟨_, (pss_cons (ps_set (i := 2) sc_law_lacking.nd rfl (by first | exact Or.inl rfl | exact Or.inr rfl) pe_dnewK) (pss_cons (ps_lock (ps_for PassesOwn.never rfl (pi_keys (pv 1)) (pg_name (i := 3) sc_law_lacking.nd rfl (by first | exact Or.inl rfl | exact Or.inr rfl)) (pss_cons (ps_set (i := 4) sc_law_lacking.nd rfl (by first | exact Or.inl rfl | exact Or.inr rfl) (pe_dget2 (hu_of hr) (pv 0) (pv 3) (pe_tup (pa_cons pe_int (pa_cons pe_int pa_nil))) (by refine ⟨?_, ?_, ?_, ?_⟩ <;> rfl))) (pss_one (ps_if (PW.pt (pw_or (pt_cmpR op_gt (pe_ix ix_tup (pe_dget (hu_of hr) (pv 1) (pv 3) (fun _ _ => rfl)) pe_int (fun _ _ => rfl)) (pe_ix ix_tup (pv 4) pe_int (fun _ _ => rfl)) (nomark _)) (pw_or1 (pt_cmpR op_gt (pe_ix ix_tup (pe_dget (hu_of hr) (pv 1) (pv 3) (fun _ _ => rfl)) pe_int (fun _ _ => rfl)) (pe_ix ix_tup (pv 4) pe_int (fun _ _ => rfl)) (nomark _))))) (pss_one (ps_dput (hu_of hr) (pv 2) (pv 3) (pe_dget (hu_of hr) (pv 1) (pv 3) (fun _ _ => rfl)) rfl)) pss_nil))))) (pss_one (ps_ret (pv 2))))), ?_⟩
    refine qx_asg x_dnew fun v H1 e1 hv => ?_
    obtain ⟨d, rfl, hd0, hd1⟩ := hv
    obtain ⟨kvs, hk1, hk2, hk3, hk4, hk5⟩ := id hq
    have hdb : d ≠ b := fun z => by rw [z, hk1] at hd0; cases hd0
    refine q_lock (e1 _ _ hk1) fun od => ?_
    have eL : Ex (upd H b (.frz od (.dK kvs))) (upd H1 b (.frz od (.dK kvs))) := ex_upd2 e1
    have hd2 : upd H1 b (.frz od (.dK kvs)) d = some (.dK []) := by rw [upd_ne hdb]; exact hd1
    have hdF : upd H b (.frz od (.dK kvs)) d = none := by rw [upd_ne hdb]; exact hd0
    have hbF : upd H b (.frz od (.dK kvs)) b = some (.frz od (.dK kvs)) := upd_same
    have hqF : PgRd K (upd H b (.frz od (.dK kvs))) b q := hq.rd.lock hk1
    have hpF : PgRd K (upd H b (.frz od (.dK kvs))) a p := hp.lock hk1
    have hun : ∀ H', Ex (upd H b (.frz od (.dK kvs))) H' → Ex H (upd H' b (.dK kvs)) := fun H' e => unlock hk1 e
    generalize upd H b (.frz od (.dK kvs)) = HL at eL hdF hbF hqF hpF hun
    refine s_forKeys (kvs := kvs) (ev_var rfl) upd_same (fun i σ' H' => ∃ s3 s4, σ' = [some (.ref a), some (.ref b), some (.ref d), s3, s4] ∧ Ex HL H' ∧ PgAt K H' d (lackP p q ((q.map (·.1)).take i)))
      (fun H2 e2 => ⟨none, none, rfl, eL.trans e2, PgAt.nil (e2 _ _ hd2)⟩) ?_ ?_ ?_
    · rintro m σ' H' ⟨s3, s4, rfl, eH, _⟩
      exact eH _ _ hbF
    · rintro i key u σ' H2 hkv ⟨s3, s4, rfl, eH, hpd⟩
      obtain ⟨⟨n, s⟩, hem, hkey, _⟩ := hk2.at hkv
      have hmem := List.mem_of_getElem? hem
      have hget := getP_mem hk3 _ hmem
      have hnm := hk4 _ hmem
      have hni : (q.map (·.1))[i]? = some n := by rw [List.getElem?_map, hem]; rfl
      simp only at hkey hget hnm
      subst hkey
      have hsucc := lackP_succ (p := p) hni hget
      have hno : n ∉ (lackP p q ((q.map (·.1)).take i)).map (·.1) := fun z => by
        have h1 := (lackP_sub p q ((q.map (·.1)).take i)).subset z
        have hi' : i < (q.map (·.1)).length := (List.getElem?_eq_some_iff.mp hni).1
        have hn' : (q.map (·.1))[i] = n := (List.getElem?_eq_some_iff.mp hni).2
        have hsp := (List.take_append_drop i (q.map (·.1))).symm
        rw [hsp, List.nodup_append] at hk3
        refine hk3.2.2 _ h1 n ?_ rfl
        rw [List.drop_eq_getElem_cons hi', hn']
        exact List.mem_cons_self
      have hll : (lackP p q ((q.map (·.1)).take i)).length ≤ i := by
        have := (lackP_sub p q ((q.map (·.1)).take i)).length_le
        rw [List.length_map, List.length_take] at this
        omega
      have hil : i < q.length := (List.getElem?_eq_some_iff.mp hem).1
      refine qx_asg (x_dget2 (K := K) (s0 := (0, 0)) (ev_var rfl) (ev_var rfl) (x_tupT (K := K) (vs := [.int 0, .int 0]) (by walk_at "ev")) (hpF.mono eH)) fun v H3 e3 hv => ?_
      obtain ⟨r, rfl, hr⟩ := hv
      generalize (getP p n).getD (0, 0) = m at hr hsucc
      have e3' := eH.trans e3
      have hxq : ∀ H4, Ex H3 H4 → EvX (tDGet (tVar 1) (tVar 3)) [some (.ref a), some (.ref b), some (.ref d), some (.str (ofL n)), some (.ref r)] H4 (Tp K [.int s.1, .int s.2]) := fun H4 e4 => x_dget (K := K) (ev_var rfl) (ev_var rfl) (hqF.mono (e3'.trans e4)) hget
      refine s_when (b := !reachB m s) (et_is (et_or (et_test (ev_op (ev_ixTp (hxq H3 (Ex.refl _)) rfl) (by walk_at "ev") rv_I0)) fun _ => et_test (ev_op (ev_ixTp (hxq H3 (Ex.refl _)) rfl) (by walk_at "ev") rv_I0)) (not_reach m s)) (fun hb H4 e4 => ?_) (fun hb H4 e4 => ?_)
      · have hc : ¬ reachB m s = true := by rw [Bool.not_eq_true']at hb; rw [hb]; simp
        rw [if_neg hc] at hsucc
        refine s_pgput (K := K) (p := lackP p q ((q.map (·.1)).take i)) (n := n) (s := s) (hxq H4 e4) (ev_var rfl) (ev_var rfl) (hpd.mono (e3.trans e4)) hnm (by omega) fun H5 ks e5 hp5 => ?_
        rw [putP_new hno, ← hsucc] at hp5
        exact ⟨_, _, rfl, Ex.mut ((e3'.trans e4).trans e5) hdF, hp5⟩
      · have hc : reachB m s = true := by rw [Bool.not_eq_false'] at hb; exact hb
        rw [if_pos hc] at hsucc
        exact ⟨_, _, rfl, e3'.trans e4, by rw [hsucc]; exact hpd.mono (e3.trans e4)⟩
    · rintro σ' H' ⟨s3, s4, rfl, eH, hpd⟩
      refine ⟨eH _ _ hbF, ?_⟩
      have hfull : (q.map (·.1)).take kvs.length = q.map (·.1) := List.take_of_length_le (by rw [List.length_map, hk2.len]; exact Nat.le_refl _)
      rw [hfull] at hpd
      have hp2 := hpd.updF (o := .dK kvs) (eH _ _ hbF) hdb
      refine s_ret (ev_var rfl) fun H2 e2 => k _ _ ((hun _ eH).trans e2) ⟨d, rfl, hd0, hp2.mono e2⟩
end

section
variable {P : Program} {w : World} {K : PySem.W.Frag} {mg : Str → Option Value} {base : Heap}
abbrev spWhole : Sp := SpF (fun c : Int => [.int c]) (fun _ _ => True) (fun c _ => Is (.bl true))
theorem sv_whole {c : Int} {H : Hp} : SpV spWhole [.int c] H (.bl true) := sv_of (sx_of c (fun _ _ => trivial) fun _ _ _ _ _ h => h)
theorem ok_law_whole (T : Txt K mg) : FnOk P w K mg base CX0 1 T.a_law_whole T.d_law_whole ["_law_found"] spWhole := by
  refine T.h_law_whole.F.ok sc_law_whole (fun vs H Q E h => ?_) (fun cdv A outer s H vs Q E hr h => ?_)
  · obtain ⟨c, rfl, _⟩ := h
    rfl
  · obtain ⟨c, rfl, _, k⟩ := h
    refine ⟨_, (pss_one (ps_ret (pe_and (pe_callB call_isi (by rfl) T.n_isinstance (by decide +kernel) (pa_cons (pv 0) (pa_cons (pe_bltn (v := .ty "int") (u := .type "int") (by rfl) T.n_int (by decide +kernel) rfl) pa_nil))) (pe_one (pe_not (pe_callB call_isi (by rfl) T.n_isinstance (by decide +kernel) (pa_cons (pv 0) (pa_cons (pe_bltn (v := .ty "bool") (u := .type "bool") (by rfl) T.n_bool (by decide +kernel) rfl) pa_nil)))))))), ?_⟩
    refine s_ret (by walk_at "ev") fun H3 e3 => ?_
    exact k _ _ (by walk_at "ex") rfl

end
local macro_rules | `(tactic| walk_at "sv") => `(tactic| exact sv_whole)

section
variable {P : Program} {w : World} {K : PySem.W.Frag} {mg : Str → Option Value} {base : Heap}
abbrev spShare (K : PySem.W.Frag) : Sp := SpF (fun x : (Addr × Addr) × (Int × Int) × Int × Int => [.ref x.1.1, .ref x.1.2]) (fun x H => SqT K H x.1.1 [.int x.2.1.1, .int x.2.1.2] ∧ SqT K H x.1.2 [.int x.2.2.1, .int x.2.2.2]) (fun x _ => Is (.bl (decide (x.2.1 = x.2.2))))
theorem ok_law_share (T : Txt K mg) : FnOk P w K mg base CX0 2 T.a_law_share T.d_law_share ["_law_found", "_law_due"] (spShare K) := by
  refine T.h_law_share.F.ok sc_law_share (fun vs H Q E h => ?_) (fun cdv A outer s H vs Q E hr h => ?_)
  · obtain ⟨c, rfl, _⟩ := h
    rfl
  · obtain ⟨⟨⟨p, q⟩, ⟨a, b⟩, c, d⟩, rfl, ⟨hp, hq⟩, k⟩ := h
    simp only at hp hq k
    refine ⟨_, (pss_cons (ps_if (PW.pt (pw_or (pt_not (pt_val (pe_callB call_isi (by rfl) T.n_isinstance (by decide +kernel) (pa_cons (pv 0) (pa_cons (pe_bltn (v := .ty "tuple") (u := .type "tuple") (by rfl) T.n_tuple (by decide +kernel) rfl) pa_nil))))) (pw_or1 (pt_cmpR op_ne (pe_callB call_len_seq (by rfl) T.n_len PySem.boot_len (pa_cons (pv 0) pa_nil)) pe_int (nomark _))))) (pss_one (ps_ret pe_bl)) pss_nil) (pss_one (ps_ret (pe_and (pe_call (ok_law_whole T) (hr.mono (by decide)) rfl T.h_law_whole.m T.h_law_whole.F.kp T.h_law_whole.b .nil pass0 (pa_cons (pe_ix ix_tup (pv 0) pe_int (fun _ _ => rfl)) pa_nil)) (pe_and (pe_call (ok_law_whole T) (hr.mono (by decide)) rfl T.h_law_whole.m T.h_law_whole.F.kp T.h_law_whole.b .nil pass0 (pa_cons (pe_ix ix_tup (pv 0) pe_int (fun _ _ => rfl)) pa_nil)) (pe_and (pe_cmpR op_eq (pe_ix ix_tup (pv 0) pe_int (fun _ _ => rfl)) (pe_ix ix_tup (pv 1) pe_int (fun _ _ => rfl)) (nomark _)) (pe_one (pe_cmpR op_eq (pe_ix ix_tup (pv 0) pe_int (fun _ _ => rfl)) (pe_ix ix_tup (pv 1) pe_int (fun _ _ => rfl)) (nomark _))))))))), ?_⟩
    refine q_when (by walk_at "ev") (fun hb H2 e2 => ?_) (fun hb H2 e2 => ?_)
    · exact absurd hb (by simp)
    · refine s_ret (by walk_at "ev") fun H3 e3 => k _ _ (by walk_at "ex") ?_
      show _ = _
      by_cases h1 : a = c
      · by_cases h2 : b = d
        · subst h1 h2
          simp
        · simp [h2]
      · simp [h1]
theorem x_share {σ : L2.St} {H : Hp} {ta tb : TE} {E : XK} {a b c d : Int} (h1 : EvX ta σ H (Tp K [.int a, .int b])) (h2 : EvX tb σ H (Tp K [.int c, .int d])) :
    Ev (tCall (spShare K) [] E (tCons ta (tCons tb tNil))) σ H (.bl (decide ((a, b) = (c, d)))) := ev_x (x_call2 h1 h2 (by
  rintro _ _ H1 e ⟨p, rfl, hp⟩ ⟨q, rfl, hq⟩
  exact sx_of ((p, q), (a, b), c, d) (fun H2 e2 => ⟨ex_t e2 hp, ex_t e2 hq⟩) fun _ _ _ _ _ h => h))
end
local macro_rules | `(tactic| walk_at "xc") => `(tactic| ((with_reducible apply x_share); (focus (walk_at "xv")); (focus (walk_at "xv"))))

/-! ### two pages alike, names rising -/
section
variable {K : PySem.W.Frag} {σ : L2.St} {H H' : Hp} {ta tb te td tk tv : TE} {v : V} {P : VP}
abbrev rListK : List V → Hp → VK → Prop := fun xs H Q => ∃ (a : Addr) (kvs : List (Key × V)), xs = [.ref a] ∧ Rd H a (.dK kvs) ∧ ∀ p, H p = none → Q (.ref p) (upd H p (.lst (kvs.map fun kv => kV kv.1)))
def nmV (ns : List Nm) : List V := ns.map fun n => V.str (ofL n)
theorem x_listPg {a : Addr} {p : Pg} (h : Ev ta σ H (.ref a)) (hp : PgRd K H a p) : EvX (tCB rListK (tCons ta tNil)) σ H (Ls K (nmV (p.map (·.1)))) := fun H1 e Q q =>
  h H1 e _ fun H2 e2 => by
    obtain ⟨kvs, h1, h2, _⟩ := hp.mono (e.trans e2)
    refine ⟨a, kvs, rfl, h1, fun r hr => q _ _ (e2.trans (Ex.new hr)) ⟨r, rfl, ?_⟩⟩
    have : kvs.map (fun kv => kV kv.1) = nmV (p.map (·.1)) := by
      have := congrArg (List.map kV) h2.keys
      rw [List.map_map, List.map_map, List.map_map] at this
      unfold nmV
      rw [List.map_map]
      exact this
    rw [this]
    exact sq_of upd_same
theorem x_sortPg {a : Addr} {p : Pg} (h : Ev ta σ H (.ref a)) (hp : PgRd K H a p) : EvX (tCB rSortD (tCons ta tNil)) σ H (fun v H2 => ∃ ns, Ls K (nmV ns) v H2 ∧ ns.Perm (p.map (·.1)) ∧ RisingN ns) := fun H1 e Q q =>
  h H1 e _ fun H2 e2 => by
    obtain ⟨kvs, h1, h2, _, _, h5⟩ := hp.mono (e.trans e2)
    refine ⟨a, kvs, p.map fun e => ofL e.1, rfl, h1, h2.keys, by rw [List.length_map]; omega, fun ys r hperm hys hr => ?_⟩
    obtain ⟨hns, eys⟩ := perm_names hperm
    have hris : RisingN (ys.map fun y => y.cps.toList) := List.pairwise_map.mpr hys
    generalize (ys.map fun y => y.cps.toList) = ns at hns eys hris
    subst eys
    refine q _ _ (e2.trans (Ex.new hr)) ⟨ns, ⟨r, rfl, ?_⟩, hns, hris⟩
    rw [List.map_map]
    exact sq_of upd_same
theorem rising_eq {a b : List Nm} (h : a.Perm b) (ha : RisingN a) (hb : RisingN b) : a = b :=
  List.Perm.eq_of_pairwise (le := fun a b => ¬ b < a) (fun x y _ _ h1 h2 => List.le_antisymm h1 h2) ha hb h
theorem dpAll_names {ns : List Nm} : DpAll K H (nmV ns) (ns.map fun n => PyData.str (ofL n)) := by
  unfold nmV
  induction ns with
  | nil => exact .nil
  | cons n ns ih => exact .cons (.str _) ih
theorem can_names : ∀ {ns : List Nm}, (∀ n ∈ ns, NmOk n) → PyData.canLayAll0 (ns.map fun n => PyData.str (ofL n)) = true
  | [], _ => by simp [PyData.canLayAll0]
  | n :: ns, h => by
    have h1 := (h n List.mem_cons_self).2.2
    rw [List.map_cons, PyData.canLayAll0, can_names fun m hm => h m (List.mem_cons_of_mem _ hm), Bool.and_true, PyData.canLay0]
    show (ofL n).cps.all _ = true
    show n.toArray.all _ = true
    rw [List.all_toArray, List.all_eq_true]
    intro x hx
    exact decide_eq_true (h1 x hx)
theorem dep_names : ∀ {ns : List Nm}, PyData.depthAll (ns.map fun n => PyData.str (ofL n)) = 0
  | [] => rfl
  | n :: ns => by rw [List.map_cons, PyData.depthAll, dep_names, PyData.depth]; rfl
theorem ev_neNames {ns : List Nm} {P2 : VP} (hn : ∀ n ∈ ns, NmOk n) (h1 : EvX ta σ H (Ls K (nmV ns))) (h2 : EvX tb σ H P2) (hP : ∀ v H1, P2 v H1 → Ls K (nmV ns) v H1) : Ev (tOp (rNeD K) ta tb) σ H (.bl false) := ev_op2X h1 h2 (by
  rintro _ b H1 e ⟨p, rfl, hp⟩ h
  obtain ⟨q, rfl, hq⟩ := hP _ _ h
  have sh : SeqAt.shaped (.list (ns.map fun n => PyData.str (ofL n))) = true := by
    unfold SeqAt.shaped
    rw [PyData.canLay0, can_names hn, PyData.depth, dep_names]
    rfl
  have := rv_neD (K := K) (H := H1) (fun H2 e2 => .lst (ex_l e2 hp) dpAll_names) (fun H2 e2 => .lst (ex_l e2 hq) dpAll_names) sh sh
  rw [SeqAt.eqv_refl _ (SeqAt.canLay_of_shaped sh)] at this
  exact this)
end
section
variable {P : Program} {w : World} {K : PySem.W.Frag} {mg : Str → Option Value} {base : Heap}
abbrev spSame (K : PySem.W.Frag) : Sp := SpF (fun x : (Addr × Addr) × Pg × Pg => [.ref x.1.1, .ref x.1.2]) (fun x H => PgAt K H x.1.1 x.2.1 ∧ PgRd K H x.1.2 x.2.2 ∧ x.2.1.Perm x.2.2 ∧ RisingN (x.2.1.map (·.1))) (fun _ _ => Is (.bl true))
theorem ok_law_same (T : Txt K mg) : FnOk P w K mg base CX0 3 T.a_law_same T.d_law_same ["_law_found", "_law_due"] (spSame K) := by
  refine T.h_law_same.F.ok sc_law_same (fun vs H Q E h => ?_) (fun cdv A outer s H vs Q E hr h => ?_)
  · obtain ⟨c, rfl, _⟩ := h
    rfl
  · obtain ⟨⟨⟨a, b⟩, f, d⟩, rfl, ⟨hf, hd, hperm, hris⟩, k⟩ := h
    simp only at hf hd hperm hris k
    refine ⟨_, (pss_cons (ps_if (PW.pt (pw_or (pt_not (pt_val (pe_callB call_isi (by rfl) T.n_isinstance (by decide +kernel) (pa_cons (pv 0) (pa_cons (pe_bltn (v := .ty "dict") (u := .type "dict") (by rfl) T.n_dict (by decide +kernel) rfl) pa_nil))))) (pw_or1 (pt_cmpR (op_neD hr.units) (pe_callTy (call_listD rfl) (by rfl) T.n_list (by decide +kernel) (pa_cons (pv 0) pa_nil)) (pe_callB (gc_sortedD rfl) (by rfl) T.n_sorted (by decide +kernel) (pa_cons (pv 1) pa_nil)) (nomark _))))) (pss_one (ps_ret pe_bl)) pss_nil) (pss_cons (ps_lock (ps_for PassesOwn.never rfl (pi_keys (pv 0)) (pg_name (i := 2) sc_law_same.nd rfl (by first | exact Or.inl rfl | exact Or.inr rfl)) (pss_one (ps_if (PW.pt (pw_or (pt_not (pt_val (pe_callB call_isi (by rfl) T.n_isinstance (by decide +kernel) (pa_cons (pv 2) (pa_cons (pe_bltn (v := .ty "str") (u := .type "str") (by rfl) T.n_str (by decide +kernel) rfl) pa_nil))))) (pw_or1 (pt_not (pt_val (pe_call (ok_law_share T) (hr.mono (by decide)) rfl T.h_law_share.m T.h_law_share.F.kp T.h_law_share.b .nil pass0 (pa_cons (pe_dget (hu_of hr) (pv 0) (pv 2) (fun _ _ => rfl)) (pa_cons (pe_dget (hu_of hr) (pv 1) (pv 2) (fun _ _ => rfl)) pa_nil)))))))) (pss_one (ps_ret pe_bl)) pss_nil)))) (pss_one (ps_ret pe_bl)))), ?_⟩
    obtain ⟨kvs, hk1, hk2, hk3, hk4, hk5⟩ := id hf
    have hnames : ∀ n ∈ f.map (·.1), NmOk n := fun n hn => by
      obtain ⟨e, he, rfl⟩ := List.mem_map.mp hn
      exact hk4 e he
    refine q_when (b := !true || false) (et_or (et_not (et_B (ev_cb (ea_cons (ev_var rfl) (ea_cons ev_c ea_nil)) (rc_isi (a := "dict") (fun H1 e1 => .base (.dK (e1 _ _ hk1))) (by decide +kernel))))) fun _ => et_test (ev_neNames (K := K) (ns := f.map (·.1)) hnames (x_listPg (K := K) (ev_var rfl) hf.rd) (x_sortPg (K := K) (ev_var rfl) hd) ?_)) (fun hb H1 e1 => by cases hb) (fun _ H1 e1 => ?_)
    · rintro v H1 ⟨ns, h1, h2, h3⟩
      have : ns = f.map (·.1) := rising_eq (h2.trans (hperm.map (·.1)).symm) h3 hris
      rw [← this]
      exact h1
    refine q_lock (e1 _ _ hk1) fun od => ?_
    have hfF : PgRd K (upd H1 a (.frz od (.dK kvs))) a f := (hf.rd.mono e1).lock (e1 _ _ hk1)
    have hdF : PgRd K (upd H1 a (.frz od (.dK kvs))) b d := (hd.mono e1).lock (e1 _ _ hk1)
    have haF : upd H1 a (.frz od (.dK kvs)) a = some (.frz od (.dK kvs)) := upd_same
    have hun : ∀ H', Ex (upd H1 a (.frz od (.dK kvs))) H' → Ex H (upd H' a (.dK kvs)) := fun H' e => e1.trans (unlock (e1 _ _ hk1) e)
    generalize upd H1 a (.frz od (.dK kvs)) = HL at hfF hdF haF hun
    refine s_forKeys (kvs := kvs) (ev_var rfl) haF (fun i σ' H' => ∃ s2, σ' = [some (.ref a), some (.ref b), s2] ∧ Ex HL H') (fun H2 e2 => ⟨none, rfl, e2⟩) ?_ ?_ ?_
    · rintro m σ' H' ⟨s2, rfl, eH⟩
      exact eH _ _ haF
    · rintro i key u σ' H2 hkv ⟨s2, rfl, eH⟩
      obtain ⟨⟨n, s⟩, hem, hkey, _⟩ := hk2.at hkv
      have hmem := List.mem_of_getElem? hem
      have hget := getP_mem hk3 _ hmem
      have hget2 : getP d n = some s := getP_mem (((hperm.map (·.1)).nodup_iff).mp hk3) _ (hperm.mem_iff.mp hmem)
      simp only at hkey hget
      subst hkey
      refine s_when (b := !true || !(decide ((s.1, s.2) = (s.1, s.2)))) (et_or (et_not (et_B (ev_cb (ea_cons (ev_var rfl) (ea_cons ev_c ea_nil)) (rc_isi (x := .str (ofL n)) (a := "str") (b := true) (fun _ _ => .base (.str _)) (by decide +kernel))))) fun _ => et_not (et_B (x_share (K := K) (x_dget (K := K) (ev_var rfl) (ev_var rfl) (hfF.mono eH) hget) (x_dget (K := K) (ev_var rfl) (ev_var rfl) (hdF.mono eH) hget2)))) (fun hb H3 e3 => by simp at hb) (fun _ H3 e3 => ⟨_, rfl, eH.trans e3⟩)
    · rintro σ' H' ⟨s2, rfl, eH⟩
      refine ⟨eH _ _ haF, ?_⟩
      dsimp only
      refine s_ret ev_c fun H2 e2 => ?_
      exact k _ _ ((hun _ eH).trans e2) rfl
theorem x_same {σ : L2.St} {H : Hp} {ta tb : TE} {E : XK} {p q dd : Pg} {b : Addr} {G : Hp} (h1 : EvX ta σ H (LackV K G p q)) (h2 : Ev tb σ H (.ref b)) (hd : PgRd K H b dd) (he : ∀ ns, ns.Perm (q.map (·.1)) → (lackP p q ns).Perm dd) :
    Ev (tCall (spSame K) [] E (tCons ta (tCons tb tNil))) σ H (.bl true) := ev_x (x_call2 h1 (x_ev h2) (by
  rintro _ _ H1 e ⟨d, ns, rfl, _, hpg, hns, hris⟩ rfl
  exact sx_of ((d, b), lackP p q ns, dd) (fun H2 e2 => ⟨hpg.mono e2, hd.mono (e.trans e2), he ns hns, hris.sublist (lackP_sub p q ns)⟩) fun _ _ _ _ _ h => h))
end



section
variable {P : Program} {w : World} {K : PySem.W.Frag} {mg : Str → Option Value} {base : Heap}
abbrev spTruth : Sp := SpF (fun x : Bool × Bool => [.bl x.1, .bl x.2]) (fun _ _ => True) (fun x H => Is (.bl (decide (V.bl x.1 = V.bl x.2))))
theorem sv_truth {a b : Bool} {H : Hp} : SpV spTruth [.bl a, .bl b] H (.bl (decide (V.bl a = V.bl b))) := sv_of (sx_of (a, b) (fun _ _ => trivial) fun _ _ _ _ _ h => h)
theorem ok_law_truth (T : Txt K mg) : FnOk P w K mg base CX0 1 T.a_law_truth T.d_law_truth ["_law_found", "_law_due"] spTruth := by
  refine T.h_law_truth.F.ok sc_law_truth (fun vs H Q E h => ?_) (fun cdv A outer s H vs Q E hr h => ?_)
  · obtain ⟨c, rfl, _⟩ := h
    rfl
  · obtain ⟨⟨a, b⟩, rfl, _, k⟩ := h
    simp only at k
    refine ⟨_, (pss_one (ps_ret (pe_and (pe_callB call_isi (by rfl) T.n_isinstance (by decide +kernel) (pa_cons (pv 0) (pa_cons (pe_bltn (v := .ty "bool") (u := .type "bool") (by rfl) T.n_bool (by decide +kernel) rfl) pa_nil))) (pe_one (pe_cmpR op_eq (pv 0) (pv 1) (nomark _)))))), ?_⟩
    refine s_ret (by walk_at "ev") fun H1 e1 => ?_
    refine k _ _ e1 ?_
    show _ = _
    simp
end
local macro_rules | `(tactic| walk_at "sv") => `(tactic| exact sv_truth)

def cellAt (ns : List Int) (k : Int) : Int := ns[k.toNat]?.getD 0
section
variable {P : Program} {w : World} {K : PySem.W.Frag} {mg : Str → Option Value} {base : Heap}
abbrev spCell (K : PySem.W.Frag) : Sp := SpF (fun x : Addr × List Int × Int => [.ref x.1, .int x.2.2]) (fun x H => SqL K H x.1 (x.2.1.map V.int) ∧ 0 ≤ x.2.2) (fun x _ => Is (.int (cellAt x.2.1 x.2.2)))
theorem sv_cell {H : Hp} {a : Addr} {ns : List Int} {k : Int} (h : SqL K H a (ns.map V.int)) (hk : 0 ≤ k) : SpV (spCell K) [.ref a, .int k] H (.int (cellAt ns k)) := sv_of (sx_of (a, ns, k) (fun _ e => ⟨ex_l e h, hk⟩) fun _ _ _ _ _ h => h)
theorem ok_law_cell_at (T : Txt K mg) : FnOk P w K mg base CX0 1 T.a_law_cell_at T.d_law_cell_at ["_law_script", "_law_k"] (spCell K) := by
  refine T.h_law_cell_at.F.ok sc_law_cell_at (fun vs H Q E h => ?_) (fun cdv A outer s H vs Q E hr h => ?_)
  · obtain ⟨c, rfl, _⟩ := h
    rfl
  · obtain ⟨⟨a, ns, j⟩, rfl, ⟨hs, hj⟩, k⟩ := h
    simp only at hs hj k
    refine ⟨_, (pss_cons (ps_if (pt_cmpR op_lt (pv 1) (pe_callB call_len_seq (by rfl) T.n_len PySem.boot_len (pa_cons (pv 0) pa_nil)) (nomark _)) (pss_one (ps_ret (pe_ix ix_list (pv 0) (pv 1) (fun _ _ => rfl)))) pss_nil) (pss_one (ps_ret pe_int))), ?_⟩
    refine q_when (by walk_at "ev") (fun hb H2 e2 => ?_) (fun hb H2 e2 => ?_)
    · have hb' : j < ((ns.map V.int).length : Int) := of_decide_eq_true hb
      rw [List.length_map] at hb'
      have hlt : j.toNat < ns.length := by omega
      have e0 : ((j.toNat : Nat) : Int) = j := by omega
      refine s_ret (ev_op (ev_var rfl) (ev_var rfl) (rv_ixL (xs := ns.map V.int) (v := .int (cellAt ns j)) (ex_l e2 hs) ?_)) fun H3 e3 => k _ _ (by walk_at "ex") rfl
      show atI (ns.map V.int) j = _
      rw [← e0]
      refine atI_nat ?_
      rw [List.getElem?_map, List.getElem?_eq_getElem hlt]
      unfold cellAt
      rw [e0, List.getElem?_eq_getElem hlt]
      rfl
    · have hb' : ¬ j < ((ns.map V.int).length : Int) := of_decide_eq_false hb
      rw [List.length_map] at hb'
      refine s_ret ev_c fun H3 e3 => k _ _ (by walk_at "ex") ?_
      show _ = _
      rw [cellAt, List.getElem?_eq_none (by omega)]
      rfl
end
local macro_rules | `(tactic| walk_at "sv") => `(tactic| exact sv_cell (by walk_at "sq") (by decide))

/-! ### texts cut -/
theorem cut_take' (cs : List Nat) (n : Nat) : cutS (ofL cs) none (some (n : Int)) = ofL (cs.take n) := by
  unfold cutS
  rw [HT.sIx_none, HT.sIx_nat]
  have e : (ofL cs).length = cs.length := ofL_len cs
  have e2 : (ofL cs).cps.toList = cs := rfl
  rw [e, e2]
  show ofL _ = ofL _
  congr 1
  rw [List.drop_zero, Nat.sub_zero]
  rcases Nat.le_total n cs.length with h | h
  · rw [Nat.min_eq_left h]
  · rw [Nat.min_eq_right h, List.take_length, List.take_of_length_le h]
theorem cut_drop' (cs : List Nat) (n : Nat) : cutS (ofL cs) (some (n : Int)) none = ofL (cs.drop n) := by
  unfold cutS
  rw [HT.sIx_none, HT.sIx_nat]
  have e : (ofL cs).length = cs.length := ofL_len cs
  have e2 : (ofL cs).cps.toList = cs := rfl
  rw [e, e2]
  show ofL _ = ofL _
  congr 1
  rcases Nat.le_total n cs.length with h | h
  · rw [Nat.min_eq_left h]
    exact List.take_of_length_le (by rw [List.length_drop]; omega)
  · rw [Nat.min_eq_right h, List.drop_length, List.drop_of_length_le h, List.take_nil]
section
variable {σ : L2.St} {H : Hp} {te : TE}
theorem ev_slS1 {cs : List Nat} {tk : TE} {n : Nat} (h : Ev te σ H (.str (ofL cs))) (hk : Ev tk σ H (.int (n : Int))) (hl : cs.length ≤ 100000) : Ev (tSl rSlS te tNoPart (tPart tk)) σ H (.str (ofL (cs.take n))) := fun H1 e Q q =>
  h H1 e _ fun H2 e2 => hk H2 (e.trans e2) _ fun H3 e3 => ⟨n, rfl, ofL cs, rfl, sz_of (by rw [ofL_len]; exact hl), by
    rw [cut_take']
    exact q H3 (e2.trans e3)⟩
theorem ev_slS2 {cs : List Nat} {tk : TE} {n : Nat} (h : Ev te σ H (.str (ofL cs))) (hk : Ev tk σ H (.int (n : Int))) (hl : cs.length ≤ 100000) : Ev (tSl rSlS te (tPart tk) tNoPart) σ H (.str (ofL (cs.drop n))) := fun H1 e Q q =>
  h H1 e _ fun H2 e2 => hk H2 (e.trans e2) _ fun H3 e3 => ⟨n, rfl, ofL cs, rfl, sz_of (by rw [ofL_len]; exact hl), by
    rw [cut_drop']
    exact q H3 (e2.trans e3)⟩
end

/-! ### a page near another -/
section
variable {P : Program} {w : World} {K : PySem.W.Frag} {mg : Str → Option Value} {base : Heap}
abbrev spNearBy (K : PySem.W.Frag) : Sp := SpF (fun x : Addr × Int × Pg => [.ref x.1, .int x.2.1]) (fun x H => PgAt K H x.1 x.2.2 ∧ PgPos x.2.2 ∧ x.2.2.length ≤ 300) (fun x H => PgNew K H (2 * x.2.2.length))
theorem x_nearBy {σ : L2.St} {H : Hp} {ta tb : TE} {E : XK} {a : Addr} {c : Int} {p : Pg} (h1 : Ev ta σ H (.ref a)) (h2 : Ev tb σ H (.int c)) (hp : PgAt K H a p) (hpos : PgPos p) (hl : p.length ≤ 300) :
    EvX (tCall (spNearBy K) [] E (tCons ta (tCons tb tNil))) σ H (PgNew K H (2 * p.length)) := fun H1 e Q q =>
  (ea_cons h1 (ea_cons h2 ea_nil)) H1 e _ fun H2 e2 => ⟨(a, c, p), rfl, ⟨hp.mono (e.trans e2), hpos, hl⟩, fun v H3 e3 ⟨d, p, hv, hp, h⟩ => q v H3 (e2.trans e3) ⟨d, p, hv, fresh_back (e.trans e2) hp, h⟩⟩
abbrev TOP : Int := (10 : Int) ^ (60 : Int).toNat - 1
theorem top_nn : 0 ≤ TOP := by decide +kernel
theorem min_nn {a b : Int} (h1 : 0 ≤ a) (h2 : 0 ≤ b) : 0 ≤ (if b < a then b else a) := by
  split
  · exact h2
  · exact h1
theorem ok_law_near_by (T : Txt K mg) : FnOk P w K mg base CX0 2 T.a_law_near_by T.d_law_near_by ["_law_page", "_law_cell"] (spNearBy K) := by
  refine T.h_law_near_by.F.ok sc_law_near_by (fun vs H Q E h => ?_) (fun cdv A outer s H vs Q E hr h => ?_)
  · obtain ⟨c, rfl, _⟩ := h
    rfl
  · obtain ⟨⟨a, c, p⟩, rfl, ⟨hp, hpos, hl⟩, k⟩ := h
    simp only at hp hpos hl k
    refine ⟨_, (pss_cons (ps_set (i := 2) sc_law_near_by.nd rfl (by first | exact Or.inl rfl | exact Or.inr rfl) pe_dnewK) (pss_cons (ps_lock (ps_for PassesOwn.never rfl (pi_enumD (by rfl) T.n_enumerate (pa_cons (pv 0) pa_nil)) (pg_tup rfl (pgs_cons (pg_name (i := 3) sc_law_near_by.nd rfl (by first | exact Or.inl rfl | exact Or.inr rfl)) (pgs_cons (pg_name (i := 4) sc_law_near_by.nd rfl (by first | exact Or.inl rfl | exact Or.inr rfl)) pgs_nil))) (pss_cons (ps_set (i := 5) sc_law_near_by.nd rfl (by first | exact Or.inl rfl | exact Or.inr rfl) (pe_op op_mod (pe_call (ok_law_mixed T) (hr.mono (by decide)) rfl T.h_law_mixed.m T.h_law_mixed.F.kp T.h_law_mixed.b .nil pass0 (pa_cons (pv 1) (pa_cons (pv 3) pa_nil))) pe_int)) (pss_cons (ps_set (i := 6) sc_law_near_by.nd rfl (by first | exact Or.inl rfl | exact Or.inr rfl) (pe_dget (hu_of hr) (pv 0) (pv 4) (fun _ _ => rfl))) (pss_cut (ps_if (pt_cmpR op_eq (pv 5) pe_int (nomark _)) (pss_one (ps_set (i := 6) sc_law_near_by.nd rfl (by first | exact Or.inl rfl | exact Or.inr rfl) (pe_tup (pa_cons (pe_callB (call_min2 rfl) (by rfl) T.n_min (by decide +kernel) (pa_cons (pe_op op_add (pe_ix ix_tup (pv 6) pe_int (fun _ _ => rfl)) pe_int) (pa_cons (pe_op op_sub (pe_op op_pow pe_int pe_int) pe_int) pa_nil))) (pa_cons (pe_ix ix_tup (pv 6) pe_int (fun _ _ => rfl)) pa_nil))))) pss_nil) (pss_cut (ps_if (pt_cmpR op_eq (pv 5) pe_int (nomark _)) (pss_one (ps_set (i := 6) sc_law_near_by.nd rfl (by first | exact Or.inl rfl | exact Or.inr rfl) (pe_tup (pa_cons (pe_ix ix_tup (pv 6) pe_int (fun _ _ => rfl)) (pa_cons (pe_callB (call_min2 rfl) (by rfl) T.n_min (by decide +kernel) (pa_cons (pe_op op_add (pe_ix ix_tup (pv 6) pe_int (fun _ _ => rfl)) pe_int) (pa_cons (pe_op op_sub (pe_op op_pow pe_int pe_int) pe_int) pa_nil))) pa_nil))))) pss_nil) (pss_cut (ps_if (pt_cmpR op_eq (pv 5) pe_int (nomark _)) (pss_one (ps_set (i := 6) sc_law_near_by.nd rfl (by first | exact Or.inl rfl | exact Or.inr rfl) (pe_tup (pa_cons (pe_op op_fdiv (pe_ix ix_tup (pv 6) pe_int (fun _ _ => rfl)) pe_int) (pa_cons (pe_callB (call_min2 rfl) (by rfl) T.n_min (by decide +kernel) (pa_cons (pe_op op_add (pe_ix ix_tup (pv 6) pe_int (fun _ _ => rfl)) pe_int) (pa_cons (pe_op op_sub (pe_op op_pow pe_int pe_int) pe_int) pa_nil))) pa_nil))))) pss_nil) (pss_cut (ps_if (PW.pt (pw_and (pt_cmpR op_gt (pv 5) pe_int (nomark _)) (pw_and1 (pt_cmpR (op_neD hr.units) (pv 6) (pe_tup (pa_cons pe_int (pa_cons pe_int pa_nil))) (nomark _))))) (pss_one (ps_dput (hu_of hr) (pv 2) (pv 4) (pv 6) rfl)) pss_nil) (pss_one (ps_if (pt_cmpR op_eq (pv 5) pe_int (nomark _)) (pss_cons (ps_set (i := 7) sc_law_near_by.nd rfl (by first | exact Or.inl rfl | exact Or.inr rfl) (pe_op op_mod (pe_op op_fdiv (pe_call (ok_law_mixed T) (hr.mono (by decide)) rfl T.h_law_mixed.m T.h_law_mixed.F.kp T.h_law_mixed.b .nil pass0 (pa_cons (pv 1) (pa_cons (pv 3) pa_nil))) pe_int) (pe_callB call_len_str (by rfl) T.n_len PySem.boot_len (pa_cons (pv 4) pa_nil)))) (pss_cons (ps_set (i := 8) sc_law_near_by.nd rfl (by first | exact Or.inl rfl | exact Or.inr rfl) (pe_op op_add_str (pe_op op_add_str (pe_slice sl_str (pv 4) po_none (po_some (pv 7))) (pe_ix ix_str pe_str (pe_op op_mod (pe_op op_fdiv (pe_call (ok_law_mixed T) (hr.mono (by decide)) rfl T.h_law_mixed.m T.h_law_mixed.F.kp T.h_law_mixed.b .nil pass0 (pa_cons (pv 1) (pa_cons (pv 3) pa_nil))) pe_int) pe_int) (fun _ _ => rfl))) (pe_slice sl_str (pv 4) (po_some (pe_op op_add (pv 7) pe_int)) po_none))) (pss_one (ps_dput (hu_of hr) (pv 2) (pv 8) (pe_tup (pa_cons (pe_ix ix_tup (pv 6) pe_int (fun _ _ => rfl)) (pa_cons pe_int pa_nil))) rfl)))) pss_nil)))))))))) (pss_one (ps_ret (pv 2))))), ?_⟩
    refine qx_asg x_dnew fun v H1 e1 hv => ?_
    obtain ⟨o, rfl, ho0, ho1⟩ := hv
    obtain ⟨kvs, hk1, hk2, hk3, hk4, hk5⟩ := id hp
    have hoa : o ≠ a := fun z => by rw [z, hk1] at ho0; cases ho0
    refine q_lock (e1 _ _ hk1) fun od => ?_
    have eL : Ex (upd H a (.frz od (.dK kvs))) (upd H1 a (.frz od (.dK kvs))) := ex_upd2 e1
    have ho2 : upd H1 a (.frz od (.dK kvs)) o = some (.dK []) := by rw [upd_ne hoa]; exact ho1
    have hoF : upd H a (.frz od (.dK kvs)) o = none := by rw [upd_ne hoa]; exact ho0
    have haF : upd H a (.frz od (.dK kvs)) a = some (.frz od (.dK kvs)) := upd_same
    have hpF : PgRd K (upd H a (.frz od (.dK kvs))) a p := hp.rd.lock hk1
    have hun : ∀ H', Ex (upd H a (.frz od (.dK kvs))) H' → Ex H (upd H' a (.dK kvs)) := fun H' e => unlock hk1 e
    generalize upd H a (.frz od (.dK kvs)) = HL at eL hoF haF hpF hun
    refine s_forEnumD (K := K) (kvs := kvs) (ev_var rfl) rfl upd_same (fun i σ' H' => ∃ p' s3 s4 s5 s6 s7 s8, σ' = [some (.ref a), some (.int c), some (.ref o), s3, s4, s5, s6, s7, s8] ∧ Ex HL H' ∧ PgAt K H' o p' ∧ PgPos p' ∧ p'.length ≤ 2 * i)
      (fun H2 e2 => ⟨[], none, none, none, none, none, none, rfl, eL.trans e2, PgAt.nil (e2 _ _ ho2), (fun e he => by cases he), Nat.le_refl 0⟩) ?_ ?_ ?_
    · rintro m σ' H' ⟨p', s3, s4, s5, s6, s7, s8, rfl, eH, _⟩
      exact eH _ _ haF
    · rintro i key u σ' H2 T hkv ⟨p', s3, s4, s5, s6, s7, s8, rfl, eH, hp', hpos', hlen⟩ hT
      have hi : i < kvs.length := (List.getElem?_eq_some_iff.mp hkv).1
      obtain ⟨⟨n, s⟩, hem, hkey, _⟩ := hk2.at hkv
      have hmem := List.mem_of_getElem? hem
      have hget := getP_mem hk3 _ hmem
      have hnm := hk4 _ hmem
      have hsp := hpos _ hmem
      simp only at hkey hget hnm hsp
      subst hkey
      have eT : Ex H2 (upd H2 T (.tup [.int (i : Nat), kV (.inr (ofL n))])) := Ex.new hT
      generalize upd H2 T (.tup [.int (i : Nat), kV (.inr (ofL n))]) = H3 at eT
      have e3 : Ex HL H3 := eH.trans eT
      have hp3 := hp'.mono eT
      clear eT hT hp' eH
      have hplen := hk2.len
      have hL : (ofL n).length ≤ 100000 := by rw [ofL_len]; have := hnm.2.1; omega
      refine q_asg (v := .int (mixed c (i : Int) % 6)) (by walk_at "ev") fun H4 e4 => ?_
      generalize mixed c (i : Int) % 6 = kd
      refine qx_asg (x_dget (K := K) (ev_var rfl) (ev_var rfl) (hpF.mono (e3.trans e4)) hget) fun v H5 e5 hv => ?_
      obtain ⟨q, rfl, hq⟩ := hv
      have eH5 : Ex H3 H5 := e4.trans e5
      refine q_cut (M := fun σ' H7 => ∃ (q : Addr) (s : Int × Int), σ' = [some (.ref a), some (.int c), some (.ref o), some (.int (i : Nat)), some (.str (ofL n)), some (.int kd), some (.ref q), s7, s8] ∧ Ex H3 H7 ∧ SqT K H7 q [.int s.1, .int s.2] ∧ 0 ≤ s.1 ∧ 0 ≤ s.2) ?_ ?_
      · refine s_when (by walk_at "ev") (fun hb H6 e6 => ?_) (fun hb H6 e6 => ⟨q, s, rfl, eH5.trans e6, ex_t e6 hq, hsp.1, hsp.2.1⟩)
        have hq6 := ex_t e6 hq
        refine sx_asg (x_tupT (K := K) (vs := [.int (if TOP < s.1 + 1 then TOP else s.1 + 1), .int s.2]) (by walk_at "ev")) fun v H7 e7 hv => ?_
        obtain ⟨q', rfl, hq'⟩ := hv
        exact ⟨q', (if TOP < s.1 + 1 then TOP else s.1 + 1, s.2), rfl, eH5.trans (e6.trans e7), hq', min_nn (by have := hsp.1; omega) top_nn, hsp.2.1⟩
      clear hq hsp eH5 e5 e4 hget
      rintro _ H6 ⟨q, s, rfl, eH6, hq, hs1, hs2⟩
      refine q_cut (M := fun σ' H7 => ∃ (q : Addr) (s : Int × Int), σ' = [some (.ref a), some (.int c), some (.ref o), some (.int (i : Nat)), some (.str (ofL n)), some (.int kd), some (.ref q), s7, s8] ∧ Ex H3 H7 ∧ SqT K H7 q [.int s.1, .int s.2] ∧ 0 ≤ s.1 ∧ 0 ≤ s.2) ?_ ?_
      · refine s_when (by walk_at "ev") (fun hb H7 e7 => ?_) (fun hb H7 e7 => ⟨q, s, rfl, eH6.trans e7, ex_t e7 hq, hs1, hs2⟩)
        have hq7 := ex_t e7 hq
        refine sx_asg (x_tupT (K := K) (vs := [.int s.1, .int (if TOP < s.2 + 1 then TOP else s.2 + 1)]) (by walk_at "ev")) fun v H8 e8 hv => ?_
        obtain ⟨q', rfl, hq'⟩ := hv
        exact ⟨q', (s.1, if TOP < s.2 + 1 then TOP else s.2 + 1), rfl, eH6.trans (e7.trans e8), hq', hs1, min_nn (by omega) top_nn⟩
      clear hq hs1 hs2 eH6
      rintro _ H6 ⟨q, s, rfl, eH6, hq, hs1, hs2⟩
      refine q_cut (M := fun σ' H7 => ∃ (q : Addr) (s : Int × Int), σ' = [some (.ref a), some (.int c), some (.ref o), some (.int (i : Nat)), some (.str (ofL n)), some (.int kd), some (.ref q), s7, s8] ∧ Ex H3 H7 ∧ SqT K H7 q [.int s.1, .int s.2] ∧ 0 ≤ s.1 ∧ 0 ≤ s.2) ?_ ?_
      · refine s_when (by walk_at "ev") (fun hb H7 e7 => ?_) (fun hb H7 e7 => ⟨q, s, rfl, eH6.trans e7, ex_t e7 hq, hs1, hs2⟩)
        have hq7 := ex_t e7 hq
        refine sx_asg (x_tupT (K := K) (vs := [.int (s.1 / 2), .int (if TOP < s.2 + 5 then TOP else s.2 + 5)]) (by walk_at "ev")) fun v H8 e8 hv => ?_
        obtain ⟨q', rfl, hq'⟩ := hv
        exact ⟨q', (s.1 / 2, if TOP < s.2 + 5 then TOP else s.2 + 5), rfl, eH6.trans (e7.trans e8), hq', by show 0 ≤ s.1 / 2; omega, min_nn (by omega) top_nn⟩
      clear hq hs1 hs2 eH6
      rintro _ H6 ⟨q, s, rfl, eH6, hq, hs1, hs2⟩
      have hp6 := hp3.mono eH6
      have e6 := e3.trans eH6
      clear hp3 e3 eH6
      refine q_cut (M := fun σ' H7 => ∃ p', σ' = [some (.ref a), some (.int c), some (.ref o), some (.int (i : Nat)), some (.str (ofL n)), some (.int kd), some (.ref q), s7, s8] ∧ Ex HL H7 ∧ SqT K H7 q [.int s.1, .int s.2] ∧ PgAt K H7 o p' ∧ PgPos p' ∧ p'.length ≤ 2 * i + 1) ?_ ?_
      · refine s_when (et_and (by walk_at "ev") fun _ => et_test (ev_neT (K := K) (x_varT rfl hq) (x_tupT (K := K) (by walk_at "ev")))) (fun hb H7 e7 => ?_) (fun hb H7 e7 => ⟨p', rfl, e6.trans e7, ex_t e7 hq, hp6.mono e7, hpos', by omega⟩)
        refine s_pgput (K := K) (p := p') (n := n) (s := s) (x_varT rfl (ex_t e7 hq)) (ev_var rfl) (ev_var rfl) (hp6.mono e7) hnm (by omega) fun H8 ks e8 hp8 => ?_
        obtain ⟨ks0, hks0, _⟩ := hp6
        refine ⟨_, rfl, Ex.mut (e6.trans (e7.trans e8)) hoF, upd_t ((e7.trans e8) _ _ hks0) (ex_t (e7.trans e8) hq), hp8, putP_pos hpos' ⟨hs1, hs2, ?_⟩, Nat.le_trans putP_len (by omega)⟩
        rintro ⟨z1, z2⟩
        rw [z1, z2] at hb
        rw [Bool.and_eq_true] at hb
        exact absurd hb.2 (by decide)
      clear hp6 e6 hlen hpos'
      rintro _ H7 ⟨p2, rfl, e7, hq7, hp7, hpos7, hlen7⟩
      refine s_when (by walk_at "ev") (fun hb H8 e8 => ?_) (fun hb H8 e8 => ⟨p2, _, _, _, _, _, _, rfl, e7.trans e8, hp7.mono e8, hpos7, by omega⟩)
      have hn0 : (0 : Int) < (n.length : Int) := by have := hnm.1; omega
      have m1 : 0 ≤ mixed c (i : Int) / 6 % (n.length : Int) := Int.emod_nonneg _ (by omega)
      have m2 : mixed c (i : Int) / 6 % (n.length : Int) < n.length := Int.emod_lt_of_pos _ hn0
      refine q_asg (v := .int (mixed c (i : Int) / 6 % (n.length : Int))) (ev_op (by walk_at "ev") (ev_is (ev_cb (ea_cons (ev_var rfl) ea_nil) (rc_lenStr hL)) (by rw [ofL_len])) (rv_I hn0)) fun H9 e9 => ?_
      generalize hj : (mixed c (i : Int) / 6 % (n.length : Int)).toNat = j
      have ej : mixed c (i : Int) / 6 % (n.length : Int) = ((j : Nat) : Int) := by omega
      rw [ej]
      have hjl : j < n.length := by omega
      clear ej hj m1 m2
      refine q_asg (v := .str (ofL (n.take j ++ [letter (mixed c (i : Int) / 48)] ++ n.drop (j + 1)))) ?_ fun H10 e10 => ?_
      · rw [← ofL_app, ← ofL_app]
        have hn8 := hnm.2.1
        refine ev_op (ev_op (ev_slS1 (ev_var rfl) (ev_var rfl) (by omega)) (ev_op (y := .int (mixed c (i : Int) / 48 % 26)) (ev_is ev_c (by rw [alpha_str])) (by walk_at "ev") (rv_ixS (by rw [ofL_len]; decide) (alpha_ix _))) (rv_addStr ?_)) (ev_slS2 (n := j + 1) (ev_var rfl) (ev_is (ev_op (ev_var rfl) ev_c rv_I0) (congrArg V.int (by omega))) (by omega)) (rv_addStr ?_)
        · rw [ofL_len, List.length_take]
          show min j n.length + 1 ≤ 100000
          omega
        · show (ofL (n.take j) ++ ofL [letter (mixed c (i : Int) / 48)]).length + _ ≤ _
          rw [ofL_app, ofL_len, ofL_len, List.length_append, List.length_take, List.length_drop]
          show min j n.length + 1 + (n.length - (j + 1)) ≤ 100000
          omega
      · have hn' : NmOk (n.take j ++ [letter (mixed c (i : Int) / 48)] ++ n.drop (j + 1)) := by
          have e : (n.take j ++ [letter (mixed c (i : Int) / 48)] ++ n.drop (j + 1)).length = n.length := by
            rw [List.length_append, List.length_append, List.length_take, List.length_drop]
            show min j n.length + 1 + (n.length - (j + 1)) = n.length
            omega
          refine ⟨by rw [e]; exact hnm.1, by rw [e]; exact hnm.2.1, fun x hx => ?_⟩
          rcases List.mem_append.mp hx with hx | hx
          · rcases List.mem_append.mp hx with hx | hx
            · exact hnm.2.2 x (List.mem_of_mem_take hx)
            · rw [List.mem_singleton.mp hx]
              have := letter_low (mixed c (i : Int) / 48)
              unfold lowC' at this
              omega
          · exact hnm.2.2 x (List.mem_of_mem_drop hx)
        generalize n.take j ++ [letter (mixed c (i : Int) / 48)] ++ n.drop (j + 1) = n' at hn'
        have e10' : Ex H7 H10 := (e8.trans e9).trans e10
        have hq10 := ex_t e10' hq7
        refine s_pgput (K := K) (p := p2) (n := n') (s := (s.1, 3)) (x_tupT (K := K) (vs := [.int s.1, .int 3]) (by walk_at "ev")) (ev_var rfl) (ev_var rfl) (hp7.mono e10') hn' (by omega) fun H11 ks e11 hp11 => ?_
        exact ⟨_, _, _, _, _, _, _, rfl, Ex.mut (e7.trans (e10'.trans e11)) hoF, hp11, putP_pos hpos7 ⟨hs1, (by show (0 : Int) ≤ 3; decide), fun z => absurd (show (3 : Int) = 0 from z.2) (by decide)⟩, Nat.le_trans putP_len (by omega)⟩
    · rintro σ' H' ⟨p', s3, s4, s5, s6, s7, s8, rfl, eH, hp', hpos', hlen⟩
      refine ⟨eH _ _ haF, ?_⟩
      have hp2 := hp'.updF (o := .dK kvs) (eH _ _ haF) hoa
      refine s_ret (ev_var rfl) fun H2 e2 => k _ _ ((hun _ eH).trans e2) ⟨o, p', rfl, ho0, hp2.mono e2, hpos', by have := hk2.len; omega⟩
end

/-! ### the law: what pages lack -/
section
variable {K : PySem.W.Frag} {σ : L2.St} {H H' : Hp} {ta tb tc te td tk tv : TE} {v : V} {P P1 P2 P3 : VP} {D : Ends} {tz : TS}
theorem x_lst2X [Mono P1] [Mono P2] (h1 : EvX ta σ H P1) (h2 : EvX tb σ H P2) : EvX (tLst (tCons ta (tCons tb tNil))) σ H (fun v H2 => ∃ p a b, v = .ref p ∧ H p = none ∧ H2 p = some (.lst [a, b]) ∧ P1 a H2 ∧ P2 b H2) := fun H1 e Q q =>
  h1 H1 e _ fun a H2 e2 ha => h2 H2 (e.trans e2) _ fun b H3 e3 hb => ⟨Nat.le_of_ble_eq_true rfl, fun p hp => q _ _ ((e2.trans e3).trans (Ex.new hp)) ⟨p, a, b, rfl, fresh_back e (fresh_back (e2.trans e3) hp), upd_same, Mono.mono (e3.trans (Ex.new hp)) ha, Mono.mono (Ex.new hp) hb⟩⟩
theorem x_lst3X [Mono P1] [Mono P2] [Mono P3] (h1 : EvX ta σ H P1) (h2 : EvX tb σ H P2) (h3 : EvX tc σ H P3) : EvX (tLst (tCons ta (tCons tb (tCons tc tNil)))) σ H (fun v H2 => ∃ p a b c, v = .ref p ∧ H p = none ∧ H2 p = some (.lst [a, b, c]) ∧ P1 a H2 ∧ P2 b H2 ∧ P3 c H2) := fun H1 e Q q =>
  h1 H1 e _ fun a H2 e2 ha => h2 H2 (e.trans e2) _ fun b H3 e3 hb => h3 H3 (e.trans (e2.trans e3)) _ fun c H4 e4 hc => ⟨Nat.le_of_ble_eq_true rfl, fun p hp =>
    q _ _ (((e2.trans e3).trans e4).trans (Ex.new hp)) ⟨p, a, b, c, rfl, fresh_back e (fresh_back ((e2.trans e3).trans e4) hp), upd_same, Mono.mono ((e3.trans e4).trans (Ex.new hp)) ha, Mono.mono (e4.trans (Ex.new hp)) hb, Mono.mono (Ex.new hp) hc⟩⟩
theorem q_appX {l : Addr} {xs : List V} (hl : H l = some (.lst xs)) (ha : Ev ta σ H (.ref l)) (h : EvX te σ H P) (hz : xs.length < 100000) (k : ∀ v H1, Ex H H1 → P v H1 → tz D σ (upd H1 l (.lst (xs ++ [v])))) :
    tSeq (tDrop (tBM K "list" rAppend ta (tCons te tNil))) tz D σ H := ha H (Ex.refl H) _ fun H1 e1 =>
  ⟨Or.inl ⟨rfl, xs, sq_of (e1 l _ hl)⟩, h H1 e1 _ fun v H2 e2 hv => ⟨l, xs, v, rfl, rfl, e2 l _ (e1 l _ hl), sz_lt hz, k v H2 (e1.trans e2) hv⟩⟩
theorem pg_kvs {H : Hp} {kvs : List (Key × V)} {p : Pg} {d : Addr} (e : Ex H H') (h : PgV K H kvs p ∧ (p.map (·.1)).Nodup ∧ (∀ e ∈ p, NmOk e.1) ∧ p.length ≤ 1000) (hd : H' d = some (.dK kvs)) : PgAt K H' d p := ⟨kvs, hd, h.1.mono e, h.2⟩
theorem x_lackNil {E : XK} {b : Addr} {q : Pg} (h2 : Ev tb σ H (.ref b)) (hq : PgRd K H b q) : EvX (tCall (spLacking K) [] E (tCons tDNewK (tCons tb tNil))) σ H (LackV K H [] q) := x_call2 x_dnew (x_ev h2) (by
  rintro _ _ H1 e ⟨a, rfl, _, ha⟩ rfl
  exact sx_of ((a, b), [], q) (fun H2 e2 => ⟨(PgAt.nil (e2 _ _ ha)).rd, hq.mono (e.trans e2)⟩) fun _ _ _ e2 _ ⟨d, ns, h1, h2, h3⟩ => ⟨d, ns, h1, fresh_back (e.trans e2) h2, h3⟩)
theorem x_knowsX {E : XK} {p q : Pg} [Mono P1] (h1 : EvX ta σ H P1) (h2 : EvX tb σ H P2) (g1 : ∀ v H1, Ex H H1 → P1 v H1 → ∃ a, v = .ref a ∧ PgAt K H1 a p) (g2 : ∀ v H1, Ex H H1 → P2 v H1 → ∃ a, v = .ref a ∧ PgAt K H1 a q) :
    Ev (tCall (spKnows K) [] E (tCons ta (tCons tb tNil))) σ H (.bl (knowsB p q)) := ev_x (x_call2 h1 h2 (by
  intro v1 v2 H1 e p1 p2
  obtain ⟨a, rfl, ha⟩ := g1 _ _ e p1
  obtain ⟨b, rfl, hb⟩ := g2 _ _ e p2
  exact sx_of ((a, b), p, q) (fun H2 e2 => ⟨(ha.mono e2).rd, hb.mono e2⟩) fun _ _ _ e2 _ h => h))
theorem nw_pnil {H : Hp} : ∀ v H1, Ex H H1 → Nw H (.dK []) v H1 → ∃ a, v = .ref a ∧ PgAt K H1 a [] := fun _ _ _ ⟨a, h, _, ha⟩ => ⟨a, h, PgAt.nil ha⟩
theorem nw_pg {H : Hp} {kvs : List (Key × V)} {p : Pg} (h : PgV K H kvs p ∧ (p.map (·.1)).Nodup ∧ (∀ e ∈ p, NmOk e.1) ∧ p.length ≤ 1000) : ∀ v H1, Ex H H1 → Nw H (.dK kvs) v H1 → ∃ a, v = .ref a ∧ PgAt K H1 a p := fun _ _ e ⟨a, h1, _, ha⟩ => ⟨a, h1, pg_kvs e h ha⟩
theorem PgV.nil_len {kvs : List (Key × V)} {p : Pg} (h : PgV K H kvs p) : decide (kvs.length = 0) = decide (p.length = 0) := by rw [h.len]
theorem rv_sameNil {r : Bool} {a b : Addr} {ks : List (Key × V)} (h1 : H a = some (.dK ks)) (h2 : H b = some (.dK [])) : RV (rDictSame r) (.ref a) (.ref b) H (.bl (if ks.length = 0 then r else !r)) := fun H1 e _ q =>
  ⟨a, b, ks, [], rfl, rfl, e _ _ h1, e _ _ h2, by
    by_cases c : ks.length = 0
    · obtain rfl := List.length_eq_zero_iff.mp c
      exact .inl ⟨rfl, (fun p h => by cases h), q H1 (Ex.refl H1)⟩
    · rw [if_neg c] at q
      exact .inr ⟨c, q H1 (Ex.refl H1)⟩⟩
theorem ev_eqNil {a : Addr} {p : Pg} (h : Ev ta σ H (.ref a)) (hp : PgAt K H a p) : Ev (tOp (rDictSame true) ta tDNewK) σ H (.bl (decide (p.length = 0))) := ev_op2X (x_ev h) x_dnew (by
  rintro _ _ H1 e rfl ⟨b, rfl, _, hb⟩
  obtain ⟨kvs, h1, h2, _⟩ := hp.mono e
  have := rv_sameNil (r := true) h1 hb
  rw [h2.len] at this
  by_cases c : p.length = 0
  · rw [if_pos c] at this
    rw [decide_eq_true c]
    exact this
  · rw [if_neg c] at this
    rw [decide_eq_false c]
    exact this)
theorem ev_neNil {p q : Pg} {G : Hp} (h : EvX ta σ H (LackV K G p q)) (hl : ∀ ns, (lackP p q ns).length = 0) : Ev (tOp (rDictSame false) ta tDNewK) σ H (.bl false) := ev_op2X h x_dnew (by
  rintro _ _ H1 e ⟨d, ns, rfl, _, hpg, _⟩ ⟨b, rfl, _, hb⟩
  obtain ⟨kvs, h1, h2, _⟩ := hpg
  have := rv_sameNil (r := false) h1 hb
  rw [if_pos (by rw [h2.len, hl])] at this
  exact this)
theorem PgV.plain {kvs : List (Key × V)} {p : Pg} (h : PgV K H kvs p) (hn : (p.map (·.1)).Nodup) : ∀ x ∈ kvs, valV kvs x.1 = some x.2 ∧ (flatB x.2 = true ∨ ∃ a, x.2 = .ref a) := by
  have hk : (kvs.map (·.1)).Nodup := by
    rw [h.keys]
    refine List.pairwise_map.mpr ?_
    have : (p.map fun e => ofL e.1) = (p.map (·.1)).map ofL := by rw [List.map_map]; rfl
    rw [this]
    refine List.pairwise_map.mpr (hn.imp fun {a b} h z => h (ofL_inj (Sum.inr.inj z)))
  intro x hx
  refine ⟨val_nodup hk x hx, ?_⟩
  obtain ⟨i, hi, rfl⟩ := List.getElem_of_mem hx
  obtain ⟨e, _, _, q, hq, _⟩ := h.at (List.getElem?_eq_getElem hi)
  exact .inr ⟨q, hq⟩
end
theorem reach_self (s : Int × Int) : reachB s s = true := by simp [reachB]
theorem lack_none {p q : Pg} {ns : List Nm} (h : ∀ n s, getP q n = some s → reachB ((getP p n).getD (0, 0)) s = true) : (lackP p q ns).length = 0 := by
  cases c : lackP p q ns with
  | nil => rfl
  | cons e r =>
    have he : e ∈ lackP p q ns := by rw [c]; exact List.mem_cons_self
    unfold lackP at he
    obtain ⟨n, _, hn⟩ := List.mem_filterMap.mp he
    cases g : getP q n with
    | none => rw [g] at hn; cases hn
    | some s => rw [g, Option.bind_some, if_pos (h n s g)] at hn; cases hn
theorem knows_lack {p q : Pg} (hn : (q.map (·.1)).Nodup) : knowsB p q = decide ((lackP p q (q.map (·.1))).length = 0) := by
  rw [Bool.eq_iff_iff, decide_eq_true_iff]
  unfold knowsB
  rw [List.all_eq_true]
  constructor
  · intro h
    refine lack_none fun n s hg => ?_
    unfold getP at hg
    cases c : q.find? fun e => decide (e.1 = n) with
    | none => rw [c] at hg; cases hg
    | some e =>
      rw [c] at hg
      obtain rfl : e.2 = s := Option.some.inj hg
      have h1 := h e (List.mem_of_find?_eq_some c)
      have h2 : (fun e : Nm × Int × Int => decide (e.1 = n)) e = true := List.find?_some (p := fun e : Nm × Int × Int => decide (e.1 = n)) c
      rw [of_decide_eq_true h2] at h1
      exact h1
  · intro h e he
    have h0 := List.length_eq_zero_iff.mp h
    by_cases c : reachB ((getP p e.1).getD (0, 0)) e.2 = true
    · exact c
    · have : (e.1, e.2) ∈ lackP p q (q.map (·.1)) := by
        unfold lackP
        refine List.mem_filterMap.mpr ⟨e.1, List.mem_map.mpr ⟨e, he, rfl⟩, ?_⟩
        rw [getP_mem hn e he, Option.bind_some, if_neg c]
      rw [h0] at this
      cases this
theorem knows_self {p : Pg} (hn : (p.map (·.1)).Nodup) : knowsB p p = true := by
  unfold knowsB
  rw [List.all_eq_true]
  intro e he
  rw [getP_mem hn e he]
  exact reach_self _
theorem pos_not {s : Int × Int} (h : ShPos s) : ¬ reachB (0, 0) s = true := by
  unfold reachB
  unfold ShPos at h
  intro z
  rw [Bool.and_eq_true] at z
  have h1 := of_decide_eq_true z.1
  have h2 := of_decide_eq_true z.2
  simp only at h1 h2
  omega
theorem knows_nil {p : Pg} (h : PgPos p) : knowsB [] p = decide (p.length = 0) := by
  cases p with
  | nil => rfl
  | cons e r =>
    have := pos_not (h e List.mem_cons_self)
    unfold knowsB
    rw [List.all_cons]
    show (reachB (0, 0) e.2 && _) = _
    rw [Bool.not_eq_true] at this
    rw [this]
    rfl
theorem lack_all {q : Pg} (hp : PgPos q) (hn : (q.map (·.1)).Nodup) : lackP [] q (q.map (·.1)) = q := by
  have : ∀ r : Pg, (∀ e ∈ r, getP q e.1 = some e.2 ∧ ShPos e.2) → lackP [] q (r.map (·.1)) = r := by
    intro r
    induction r with
    | nil => intro _; rfl
    | cons e r ih =>
      intro h
      have h1 := h e List.mem_cons_self
      have h2 := ih fun x hx => h x (List.mem_cons_of_mem _ hx)
      unfold lackP at h2 ⊢
      rw [List.map_cons, List.filterMap_cons, h1.1, Option.bind_some]
      have h3 : ¬ reachB ((getP [] e.1).getD (0, 0)) e.2 = true := pos_not h1.2
      rw [if_neg h3, h2]
  exact this q fun e he => ⟨getP_mem hn e he, hp e he⟩


section
variable {P : Program} {w : World} {K : PySem.W.Frag} {mg : Str → Option Value} {base : Heap}
theorem ok_law (T : Txt K mg) : FnOk P w K mg base CX0 4 T.a_law T.d_law ["_law_script"] (spLaw K) := by
  refine T.h_law.F.ok sc_law (fun vs H Q E h => ?_) (fun cdv A outer s H vs Q E hr h => ?_)
  · obtain ⟨a, ns, rfl, _⟩ := h
    rfl
  · obtain ⟨l, ns, rfl, hl, _, k⟩ := h
    refine ⟨_, (pss_cons (ps_set (i := 1) sc_law.nd rfl (by first | exact Or.inl rfl | exact Or.inr rfl) (pe_op op_mod (pe_call (ok_law_cell_at T) (hr.mono (by decide)) rfl T.h_law_cell_at.m T.h_law_cell_at.F.kp T.h_law_cell_at.b .nil pass0 (pa_cons (pv 0) (pa_cons pe_int pa_nil))) pe_int)) (pss_cut (ps_if (pt_cmpR op_eq (pe_op op_mod (pe_op op_fdiv (pe_call (ok_law_cell_at T) (hr.mono (by decide)) rfl T.h_law_cell_at.m T.h_law_cell_at.F.kp T.h_law_cell_at.b .nil pass0 (pa_cons (pv 0) (pa_cons pe_int pa_nil))) pe_int) pe_int) pe_int (nomark _)) (pss_one (ps_set (i := 1) sc_law.nd rfl (by first | exact Or.inl rfl | exact Or.inr rfl) (pe_op op_add pe_int (pe_op op_mod (pe_op op_fdiv (pe_call (ok_law_cell_at T) (hr.mono (by decide)) rfl T.h_law_cell_at.m T.h_law_cell_at.F.kp T.h_law_cell_at.b .nil pass0 (pa_cons (pv 0) (pa_cons pe_int pa_nil))) pe_int) pe_int)))) pss_nil) (pss_cons (ps_set (i := 2) sc_law.nd rfl (by first | exact Or.inl rfl | exact Or.inr rfl) (pe_call (ok_law_page_by T) (hr.mono (by decide)) rfl T.h_law_page_by.m T.h_law_page_by.F.kp T.h_law_page_by.b .nil pass0 (pa_cons (pe_call (ok_law_cell_at T) (hr.mono (by decide)) rfl T.h_law_cell_at.m T.h_law_cell_at.F.kp T.h_law_cell_at.b .nil pass0 (pa_cons (pv 0) (pa_cons pe_int pa_nil))) (pa_cons (pe_call (ok_law_cell_at T) (hr.mono (by decide)) rfl T.h_law_cell_at.m T.h_law_cell_at.F.kp T.h_law_cell_at.b .nil pass0 (pa_cons (pv 0) (pa_cons pe_int pa_nil))) (pa_cons (pv 1) pa_nil))))) (pss_cons (ps_set (i := 3) sc_law.nd rfl (by first | exact Or.inl rfl | exact Or.inr rfl) (pe_call (ok_law_near_by T) (hr.mono (by decide)) rfl T.h_law_near_by.m T.h_law_near_by.F.kp T.h_law_near_by.b .nil pass0 (pa_cons (pv 2) (pa_cons (pe_call (ok_law_cell_at T) (hr.mono (by decide)) rfl T.h_law_cell_at.m T.h_law_cell_at.F.kp T.h_law_cell_at.b .nil pass0 (pa_cons (pv 0) (pa_cons pe_int pa_nil))) pa_nil)))) (pss_cut (ps_if (pt_cmpR op_eq (pe_op op_mod (pe_call (ok_law_cell_at T) (hr.mono (by decide)) rfl T.h_law_cell_at.m T.h_law_cell_at.F.kp T.h_law_cell_at.b .nil pass0 (pa_cons (pv 0) (pa_cons pe_int pa_nil))) pe_int) pe_int (nomark _)) (pss_cons (ps_set (i := 4) sc_law.nd rfl (by first | exact Or.inl rfl | exact Or.inr rfl) (pe_call (ok_law_page_by T) (hr.mono (by decide)) rfl T.h_law_page_by.m T.h_law_page_by.F.kp T.h_law_page_by.b .nil pass0 (pa_cons (pe_call (ok_law_cell_at T) (hr.mono (by decide)) rfl T.h_law_cell_at.m T.h_law_cell_at.F.kp T.h_law_cell_at.b .nil pass0 (pa_cons (pv 0) (pa_cons pe_int pa_nil))) (pa_cons (pe_call (ok_law_cell_at T) (hr.mono (by decide)) rfl T.h_law_cell_at.m T.h_law_cell_at.F.kp T.h_law_cell_at.b .nil pass0 (pa_cons (pv 0) (pa_cons pe_int pa_nil))) (pa_cons (pe_op op_mod (pe_op op_fdiv (pe_call (ok_law_cell_at T) (hr.mono (by decide)) rfl T.h_law_cell_at.m T.h_law_cell_at.F.kp T.h_law_cell_at.b .nil pass0 (pa_cons (pv 0) (pa_cons pe_int pa_nil))) pe_int) pe_int) pa_nil))))) (pss_one (ps_lock (ps_for PassesOwn.never rfl (pi_keys (pv 4)) (pg_name (i := 5) sc_law.nd rfl (by first | exact Or.inl rfl | exact Or.inr rfl)) (pss_one (ps_dput (hu_of hr) (pv 3) (pv 5) (pe_dget (hu_of hr) (pv 4) (pv 5) (fun _ _ => rfl)) rfl)))))) pss_nil) (pss_cons (ps_set (i := 6) sc_law.nd rfl (by first | exact Or.inl rfl | exact Or.inr rfl) (pe_lst (pa_cons (pe_callTy call_dictD (by rfl) T.n_dict (by decide +kernel) (pa_cons (pv 2) pa_nil)) (pa_cons (pe_callTy call_dictD (by rfl) T.n_dict (by decide +kernel) (pa_cons (pv 3) pa_nil)) pa_nil)))) (pss_cons (ps_set (i := 7) sc_law.nd rfl (by first | exact Or.inl rfl | exact Or.inr rfl) (pe_call (ok_law_lacking T) (hr.mono (by decide)) rfl T.h_law_lacking.m T.h_law_lacking.F.kp T.h_law_lacking.b .nil pass0 (pa_cons (pv 2) (pa_cons (pv 3) pa_nil)))) (pss_cons (ps_set (i := 8) sc_law.nd rfl (by first | exact Or.inl rfl | exact Or.inr rfl) (pe_call (ok_law_lacking T) (hr.mono (by decide)) rfl T.h_law_lacking.m T.h_law_lacking.F.kp T.h_law_lacking.b .nil pass0 (pa_cons (pv 3) (pa_cons (pv 2) pa_nil)))) (pss_cons (ps_if (PW.pt (pw_or (pt_not (pt_val (pe_call (ok_law_same T) (hr.mono (by decide)) rfl T.h_law_same.m T.h_law_same.F.kp T.h_law_same.b .nil pass0 (pa_cons (pe_call (ok_lacking T) (hr.mono (by decide)) rfl T.h_lacking.m T.h_lacking.F.kp T.h_lacking.b .nil pass0 (pa_cons (pe_ix ix_list (pv 6) pe_int (fun _ _ => rfl)) (pa_cons (pe_ix ix_list (pv 6) pe_int (fun _ _ => rfl)) pa_nil))) (pa_cons (pv 7) pa_nil))))) (pw_or1 (pt_not (pt_val (pe_call (ok_law_same T) (hr.mono (by decide)) rfl T.h_law_same.m T.h_law_same.F.kp T.h_law_same.b .nil pass0 (pa_cons (pe_call (ok_lacking T) (hr.mono (by decide)) rfl T.h_lacking.m T.h_lacking.F.kp T.h_lacking.b .nil pass0 (pa_cons (pe_ix ix_list (pv 6) pe_int (fun _ _ => rfl)) (pa_cons (pe_ix ix_list (pv 6) pe_int (fun _ _ => rfl)) pa_nil))) (pa_cons (pv 8) pa_nil)))))))) (pss_one (ps_ret pe_bl)) pss_nil) (pss_cons (ps_if (pt_not (pt_val (pe_call (ok_law_truth T) (hr.mono (by decide)) rfl T.h_law_truth.m T.h_law_truth.F.kp T.h_law_truth.b .nil pass0 (pa_cons (pe_call (ok_knows T) (hr.mono (by decide)) rfl T.h_knows.m T.h_knows.F.kp T.h_knows.b .nil pass0 (pa_cons (pe_ix ix_list (pv 6) pe_int (fun _ _ => rfl)) (pa_cons (pe_ix ix_list (pv 6) pe_int (fun _ _ => rfl)) pa_nil))) (pa_cons (pe_cmpR (gc_eq_dict hr.units0) (pv 7) pe_dnewK (nomark _)) pa_nil))))) (pss_one (ps_ret pe_bl)) pss_nil) (pss_cons (ps_if (pt_not (pt_val (pe_call (ok_law_truth T) (hr.mono (by decide)) rfl T.h_law_truth.m T.h_law_truth.F.kp T.h_law_truth.b .nil pass0 (pa_cons (pe_call (ok_knows T) (hr.mono (by decide)) rfl T.h_knows.m T.h_knows.F.kp T.h_knows.b .nil pass0 (pa_cons (pe_ix ix_list (pv 6) pe_int (fun _ _ => rfl)) (pa_cons (pe_ix ix_list (pv 6) pe_int (fun _ _ => rfl)) pa_nil))) (pa_cons (pe_cmpR (gc_eq_dict hr.units0) (pv 8) pe_dnewK (nomark _)) pa_nil))))) (pss_one (ps_ret pe_bl)) pss_nil) (pss_cons (ps_set (i := 9) sc_law.nd rfl (by first | exact Or.inl rfl | exact Or.inr rfl) (pe_lst (pa_cons (pe_call (ok_lacking T) (hr.mono (by decide)) rfl T.h_lacking.m T.h_lacking.F.kp T.h_lacking.b .nil pass0 (pa_cons pe_dnewK (pa_cons (pe_ix ix_list (pv 6) pe_int (fun _ _ => rfl)) pa_nil))) (pa_cons (pe_call (ok_lacking T) (hr.mono (by decide)) rfl T.h_lacking.m T.h_lacking.F.kp T.h_lacking.b .nil pass0 (pa_cons (pe_ix ix_list (pv 6) pe_int (fun _ _ => rfl)) (pa_cons (pe_ix ix_list (pv 6) pe_int (fun _ _ => rfl)) pa_nil))) (pa_cons (pe_call (ok_lacking T) (hr.mono (by decide)) rfl T.h_lacking.m T.h_lacking.F.kp T.h_lacking.b .nil pass0 (pa_cons pe_dnewK (pa_cons (pe_ix ix_list (pv 6) pe_int (fun _ _ => rfl)) pa_nil))) pa_nil))))) (pss_cons (ps_expr (pe_bm PySem.F.plainAttrs_list PySem.F.slot_list_append PySem.F.type_list_append mt_append (pv 9) (pa_cons (pe_call (ok_lacking T) (hr.mono (by decide)) rfl T.h_lacking.m T.h_lacking.F.kp T.h_lacking.b .nil pass0 (pa_cons (pe_ix ix_list (pv 6) pe_int (fun _ _ => rfl)) (pa_cons (pe_ix ix_list (pv 6) pe_int (fun _ _ => rfl)) pa_nil))) pa_nil))) (pss_cons (ps_for PassesOwn.never rfl (pi_list (pv 9)) (pg_name (i := 10) sc_law.nd rfl (by first | exact Or.inl rfl | exact Or.inr rfl)) (pss_one (ps_dput (hu_of hr) (pv 10) pe_str (pe_tup (pa_cons pe_int (pa_cons pe_int pa_nil))) rfl))) (pss_cons (ps_if (PW.pt (pw_or (pt_cmpR (gc_ne_dict hr.units0) (pe_call (ok_lacking T) (hr.mono (by decide)) rfl T.h_lacking.m T.h_lacking.F.kp T.h_lacking.b .nil pass0 (pa_cons (pe_ix ix_list (pv 6) pe_int (fun _ _ => rfl)) (pa_cons (pe_ix ix_list (pv 6) pe_int (fun _ _ => rfl)) pa_nil))) pe_dnewK (nomark _)) (pw_or1 (pt_not (pt_val (pe_call (ok_law_same T) (hr.mono (by decide)) rfl T.h_law_same.m T.h_law_same.F.kp T.h_law_same.b .nil pass0 (pa_cons (pe_call (ok_lacking T) (hr.mono (by decide)) rfl T.h_lacking.m T.h_lacking.F.kp T.h_lacking.b .nil pass0 (pa_cons (pe_ix ix_list (pv 6) pe_int (fun _ _ => rfl)) (pa_cons (pe_ix ix_list (pv 6) pe_int (fun _ _ => rfl)) pa_nil))) (pa_cons (pv 7) pa_nil)))))))) (pss_one (ps_ret pe_bl)) pss_nil) (pss_cons (ps_if (PW.pt (pw_or (pt_cmpR (gc_ne_dict hr.units0) (pe_ix ix_list (pv 6) pe_int (fun _ _ => rfl)) (pv 2) (nomark _)) (pw_or (pt_cmpR (gc_ne_dict hr.units0) (pe_ix ix_list (pv 6) pe_int (fun _ _ => rfl)) (pv 3) (nomark _)) (pw_or1 (pt_not (pt_val (pe_call (ok_law_same T) (hr.mono (by decide)) rfl T.h_law_same.m T.h_law_same.F.kp T.h_law_same.b .nil pass0 (pa_cons (pe_call (ok_lacking T) (hr.mono (by decide)) rfl T.h_lacking.m T.h_lacking.F.kp T.h_lacking.b .nil pass0 (pa_cons pe_dnewK (pa_cons (pe_ix ix_list (pv 6) pe_int (fun _ _ => rfl)) pa_nil))) (pa_cons (pv 3) pa_nil))))))))) (pss_one (ps_ret pe_bl)) pss_nil) (pss_cons (ps_if (PW.pt (pw_or (pt_cmpR op_notBl (pe_call (ok_knows T) (hr.mono (by decide)) rfl T.h_knows.m T.h_knows.F.kp T.h_knows.b .nil pass0 (pa_cons (pe_callTy call_dictD (by rfl) T.n_dict (by decide +kernel) (pa_cons (pv 2) pa_nil)) (pa_cons (pe_callTy call_dictD (by rfl) T.n_dict (by decide +kernel) (pa_cons (pv 2) pa_nil)) pa_nil))) pe_bl (nomark _)) (pw_or1 (pt_cmpR op_notBl (pe_call (ok_knows T) (hr.mono (by decide)) rfl T.h_knows.m T.h_knows.F.kp T.h_knows.b .nil pass0 (pa_cons (pe_callTy call_dictD (by rfl) T.n_dict (by decide +kernel) (pa_cons (pv 2) pa_nil)) (pa_cons pe_dnewK pa_nil))) pe_bl (nomark _))))) (pss_one (ps_ret pe_bl)) pss_nil) (pss_one (ps_ret (pe_call (ok_law_truth T) (hr.mono (by decide)) rfl T.h_law_truth.m T.h_law_truth.F.kp T.h_law_truth.b .nil pass0 (pa_cons (pe_call (ok_knows T) (hr.mono (by decide)) rfl T.h_knows.m T.h_knows.F.kp T.h_knows.b .nil pass0 (pa_cons pe_dnewK (pa_cons (pe_callTy call_dictD (by rfl) T.n_dict (by decide +kernel) (pa_cons (pv 2) pa_nil)) pa_nil))) (pa_cons (pe_cmpR (gc_eq_dict hr.units0) (pv 2) pe_dnewK (nomark _)) pa_nil)))))))))))))))))))))), ?_⟩
    refine q_asg (by walk_at "ev") fun H1 e1 => ?_
    refine q_cut (M := fun σ' H' => ∃ n : Int, 0 ≤ n ∧ n ≤ 95 ∧ Ex H1 H' ∧ σ' = [some (.ref l), some (.int n), none, none, none, none, none, none, none, none, none]) ?_ ?_
    · have hm1 := Int.emod_nonneg (cellAt ns 0) (by decide : (5 : Int) ≠ 0)
      have hm2 := Int.emod_lt_of_pos (cellAt ns 0) (by decide : (0 : Int) < 5)
      have hm3 := Int.emod_nonneg (cellAt ns 0 / 40) (by decide : (56 : Int) ≠ 0)
      have hm4 := Int.emod_lt_of_pos (cellAt ns 0 / 40) (by decide : (0 : Int) < 56)
      refine s_when (by walk_at "ev") (fun hb H2 e2 => ?_) (fun hb H2 e2 => ?_)
      · exact s_asg (v := .int (40 + cellAt ns 0 / 40 % 56)) (by walk_at "ev") fun H3 e3 => ⟨_, by omega, by omega, by walk_at "ex", rfl⟩
      · exact ⟨_, by omega, by omega, by walk_at "ex", rfl⟩
    rintro _ H2 ⟨n, hn0, hn1, e2, rfl⟩
    refine qx_asg (x_pageBy (K := K) (n := n) (by walk_at "ev") (by walk_at "ev") (by walk_at "ev") ⟨hn0, by omega⟩) fun v H3 e3 hv => ?_
    obtain ⟨a, p, rfl, ha0, hp3, hpp, hpl⟩ := hv
    refine qx_asg (x_nearBy (K := K) (ev_var rfl) (by walk_at "ev") hp3 hpp (by omega)) fun v H4 e4 hv => ?_
    obtain ⟨b, q, rfl, hb0, hq4, hqp, hql⟩ := hv
    have e02 : Ex H H2 := by walk_at "ex"
    have e03 : Ex H H3 := e02.trans e3
    clear e1 e2 e02 e3
    refine q_cut (M := fun σ' H' => ∃ q s4 s5, σ' = [some (.ref l), some (.int n), some (.ref a), some (.ref b), s4, s5, none, none, none, none, none] ∧ Ex H3 H' ∧ PgAt K H' b q ∧ PgPos q ∧ q.length ≤ 200) ?_ ?_
    · have hm1 := Int.emod_nonneg (cellAt ns 5 / 2) (by decide : (4 : Int) ≠ 0)
      have hm2 := Int.emod_lt_of_pos (cellAt ns 5 / 2) (by decide : (0 : Int) < 4)
      refine s_when (by walk_at "ev") (fun hb H5 e5 => ?_) (fun hb H5 e5 => ⟨q, none, none, rfl, e4.trans e5, hq4.mono e5, hqp, by omega⟩)
      refine qx_asg (x_pageBy (K := K) (n := cellAt ns 5 / 2 % 4) (by walk_at "ev") (by walk_at "ev") (by walk_at "ev") ⟨hm1, by omega⟩) fun v H6 e6 hv => ?_
      obtain ⟨m, r, rfl, hm0, hr6, hrp, hrl⟩ := hv
      obtain ⟨kvs, hk1, hk2, hk3, hk4, hk5⟩ := id hr6
      have hq6 := (hq4.mono e5).mono e6
      have hbm : b ≠ m := fun z => by
        obtain ⟨kb, hb5, _⟩ := hq4.mono e5
        rw [z, hm0] at hb5
        cases hb5
      have hm3 : H3 m = none := fresh_back (e4.trans e5) hm0
      refine s_lock hk1 fun od => ?_
      have eL : Ex H3 (upd H6 m (.frz od (.dK kvs))) := Ex.mut ((e4.trans e5).trans e6) hm3
      have hqL : PgAt K (upd H6 m (.frz od (.dK kvs))) b q := hq6.upd hk1 hbm
      have hrL : PgRd K (upd H6 m (.frz od (.dK kvs))) m r := hr6.rd.lock hk1
      have hmL : upd H6 m (.frz od (.dK kvs)) m = some (.frz od (.dK kvs)) := upd_same
      generalize upd H6 m (.frz od (.dK kvs)) = HL at eL hqL hrL hmL
      refine s_forKeys (kvs := kvs) (ev_var rfl) hmL (fun i σ' H' => ∃ q s5, σ' = [some (.ref l), some (.int n), some (.ref a), some (.ref b), some (.ref m), s5, none, none, none, none, none] ∧ Ex H3 H' ∧ PgAt K H' b q ∧ PgPos q ∧ q.length ≤ 190 + i ∧ PgRd K H' m r ∧ H' m = some (.frz od (.dK kvs)))
        (fun H7 e7 => ⟨q, none, rfl, eL.trans e7, hqL.mono e7, hqp, by omega, hrL.mono e7, e7 _ _ hmL⟩) ?_ ?_ ?_
      · rintro i σ' H' ⟨q, s5, rfl, eH, _, _, _, _, hmF⟩
        exact hmF
      · rintro i key u σ' H7 hkv ⟨q, s5, rfl, eH, hq7, hqp7, hql7, hr7, hmF⟩
        obtain ⟨⟨nm, s⟩, hem, hkey, _⟩ := hk2.at hkv
        have hmem := List.mem_of_getElem? hem
        have hget := getP_mem hk3 _ hmem
        have hnm := hk4 _ hmem
        have hsp := hrp _ hmem
        simp only at hkey hget hnm hsp
        subst hkey
        have hil : i < r.length := (List.getElem?_eq_some_iff.mp hem).1
        refine s_pgput (K := K) (p := q) (n := nm) (s := s) (x_dget (K := K) (ev_var rfl) (ev_var rfl) hr7 hget) (ev_var rfl) (ev_var rfl) hq7 hnm (by omega) fun H8 ks e8 hp8 => ?_
        obtain ⟨kb, hb7, _⟩ := id hq7
        exact ⟨_, _, rfl, Ex.mut (eH.trans e8) hb0, hp8, putP_pos hqp7 hsp, Nat.le_trans putP_len (by omega), (hr7.mono e8).upd (e8 _ _ hb7) (Ne.symm hbm), by rw [upd_ne (Ne.symm hbm)]; exact e8 _ _ hmF⟩
      · rintro σ' H' ⟨q, s5, rfl, eH, hq7, hqp7, hql7, hr7, hmF⟩
        refine ⟨hmF, q, _, _, rfl, Ex.mut eH hm3, hq7.updF hmF hbm, hqp7, ?_⟩
        have := hk2.len
        omega
    clear hq4 hqp hql hb0 e4 H4
    rintro _ H5 ⟨q', s4, s5, rfl, e5, hq5, hqp, hql⟩
    have hp5 := hp3.mono e5
    have e05 := e03.trans e5
    clear hp3 ha0 e5 e03
    obtain ⟨kp, hkp, hkp2⟩ := id hp5
    obtain ⟨kq, hkq, hkq2⟩ := id hq5
    have hpn := hkp2.2.1
    have hqn := hkq2.2.1
    refine qx_asg (x_lst2X (x_dcopy (ev_var rfl) hkp) (x_dcopy (ev_var rfl) hkq)) fun v H6 e6 hv => ?_
    obtain ⟨hd, _, _, rfl, _, hl6, ⟨g, rfl, _, hg6⟩, ⟨g', rfl, _, hg6'⟩⟩ := hv
    have hgp := pg_kvs e6 hkp2 hg6
    have hgq := pg_kvs e6 hkq2 hg6'
    have hp6 := hp5.mono e6
    have hq6 := hq5.mono e6
    have hkp6 := e6 _ _ hkp
    have hkq6 := e6 _ _ hkq
    have e06 := e05.trans e6
    have hkpv := hkp2.1
    have hkqv := hkq2.1
    replace hkp2 := And.intro (hkpv.mono e6) hkp2.2
    replace hkq2 := And.intro (hkqv.mono e6) hkq2.2
    clear hp5 hq5 hkp hkq e6 e05 hkpv hkqv
    have ix0 : ∀ {H7 : Hp} {σ : L2.St}, Ex H6 H7 → σ[6]? = some (some (.ref hd)) → Ev (tOp (rIxL K) (tVar 6) (tC (.int 0))) σ H7 (.ref g) := fun e h => ev_op (ev_var h) ev_c (rv_ixL (sq_of (e _ _ hl6)) rfl)
    have ix1 : ∀ {H7 : Hp} {σ : L2.St}, Ex H6 H7 → σ[6]? = some (some (.ref hd)) → Ev (tOp (rIxL K) (tVar 6) (tC (.int 1))) σ H7 (.ref g') := fun e h => ev_op (ev_var h) ev_c (rv_ixL (sq_of (e _ _ hl6)) rfl)
    refine qx_asg (x_lawLack (K := K) (ev_var rfl) (ev_var rfl) hp6.rd hq6) fun v H7 e7 hv => ?_
    obtain ⟨L, rfl, _, hL7⟩ := hv
    refine qx_asg (x_lawLack (K := K) (ev_var rfl) (ev_var rfl) (hq6.mono e7).rd (hp6.mono e7)) fun v H8 e8 hv => ?_
    obtain ⟨R, rfl, _, hR8⟩ := hv
    have hL8 := hL7.mono e8
    have e68 := e7.trans e8
    clear hL7 e7 e8
    have heL : ∀ ns, ns.Perm (q'.map (·.1)) → (lackP p q' ns).Perm (lackP p q' (q'.map (·.1))) := fun ns h => h.filterMap _
    have heR : ∀ ns, ns.Perm (p.map (·.1)) → (lackP q' p ns).Perm (lackP q' p (p.map (·.1))) := fun ns h => h.filterMap _
    refine q_when (b := !true || !true) (et_or (et_not (et_B (x_same (x_lacking (ix0 e68 rfl) (ix1 e68 rfl) (hgp.mono e68).rd (hgq.mono e68).rd) (ev_var rfl) hL8.rd heL))) fun _ => et_not (et_B (x_same (x_lacking (ix1 e68 rfl) (ix0 e68 rfl) (hgq.mono e68).rd (hgp.mono e68).rd) (ev_var rfl) hR8.rd heR))) (fun hc _ _ => by cases hc) (fun _ H9 e9 => ?_)
    have e69 := e68.trans e9
    have hL9 := hL8.mono e9
    have hR9 := hR8.mono e9
    clear hL8 hR8 e68 e9
    have tt : ∀ (x y : Bool), x = y → (!decide (V.bl x = V.bl y)) = false := fun x y h => by rw [h]; simp
    refine q_when (b := !decide (V.bl (knowsB p q') = V.bl (decide ((lackP p q' (q'.map (·.1))).length = 0)))) (et_not (et_B (ev_call (ea_cons (x_knows (ix0 e69 rfl) (ix1 e69 rfl) (hgp.mono e69).rd (hgq.mono e69)) (ea_cons (ev_eqNil (ev_var rfl) hL9) ea_nil)) sv_truth))) (fun hc _ _ => by rw [tt _ _ (knows_lack hqn)] at hc; cases hc) (fun _ H10 e10 => ?_)
    have e610 := e69.trans e10
    refine q_when (b := !decide (V.bl (knowsB q' p) = V.bl (decide ((lackP q' p (p.map (·.1))).length = 0)))) (et_not (et_B (ev_call (ea_cons (x_knows (ix1 e610 rfl) (ix0 e610 rfl) (hgq.mono e610).rd (hgp.mono e610)) (ea_cons (ev_eqNil (ev_var rfl) (hR9.mono e10)) ea_nil)) sv_truth))) (fun hc _ _ => by rw [tt _ _ (knows_lack hpn)] at hc; cases hc) (fun _ H11 e11 => ?_)
    have e611 := e610.trans e11
    have hL11 := (hL9.mono e10).mono e11
    clear hL9 hR9 e69 e610 e10 e11
    refine qx_asg (x_lst3X (x_lackNil (ix0 e611 rfl) (hgp.mono e611).rd) (x_lacking (ix0 e611 rfl) (ix1 e611 rfl) (hgp.mono e611).rd (hgq.mono e611).rd) (x_lackNil (ix1 e611 rfl) (hgq.mono e611).rd)) fun v H12 e12 hv => ?_
    obtain ⟨so, _, _, _, rfl, hso0, hso, ⟨d1, _, rfl, hf1, ⟨k1, hd1, hv1, _, _, hn1⟩, _⟩, ⟨d2, _, rfl, hf2, ⟨k2, hd2, hv2, _, _, hn2⟩, _⟩, ⟨d3, _, rfl, hf3, ⟨k3, hd3, hv3, _, _, hn3⟩, _⟩⟩ := hv
    have e612 := e611.trans e12
    refine q_appX hso (ev_var rfl) (x_lacking (ix0 e612 rfl) (ix0 e612 rfl) (hgp.mono e612).rd (hgp.mono e612).rd) (by show (3 : Nat) < 100000; decide) fun v H13 e13 hv => ?_
    obtain ⟨d4, _, rfl, hf4', ⟨k4, hd4, hv4, _, _, hn4⟩, _⟩ := hv
    have hf4 := fresh_back e12 hf4'
    have eS : Ex H11 (upd H13 so (.lst ([.ref d1, .ref d2, .ref d3] ++ [.ref d4]))) := Ex.mut (e12.trans e13) hso0
    have hls : ∀ d ∈ [d1, d2, d3, d4], H11 d = none ∧ d ≠ so ∧ ∃ ks, upd H13 so (.lst ([.ref d1, .ref d2, .ref d3] ++ [.ref d4])) d = some (.dK ks) ∧ ks.length ≤ 1000 := by
      have hso13 := e13 _ _ hso
      have one : ∀ d ks, H11 d = none → H13 d = some (.dK ks) → ks.length ≤ 1000 → H11 d = none ∧ d ≠ so ∧ ∃ ks, upd H13 so (.lst ([.ref d1, .ref d2, .ref d3] ++ [.ref d4])) d = some (.dK ks) ∧ ks.length ≤ 1000 := fun d ks h1 h2 h3 => by
        have hne : d ≠ so := ne_of h2 hso13 (by intro z; cases z)
        exact ⟨h1, hne, ks, by rw [upd_ne hne]; exact h2, h3⟩
      intro d hdm
      simp only [List.mem_cons, List.not_mem_nil, or_false] at hdm
      rcases hdm with rfl | rfl | rfl | rfl
      · exact one _ k1 hf1 (e13 _ _ hd1) (by rw [hv1.len]; exact hn1)
      · exact one _ k2 hf2 (e13 _ _ hd2) (by rw [hv2.len]; exact hn2)
      · exact one _ k3 hf3 (e13 _ _ hd3) (by rw [hv3.len]; exact hn3)
      · exact one _ k4 hf4 hd4 (by rw [hv4.len]; exact hn4)
    have hsoL : upd H13 so (.lst ([.ref d1, .ref d2, .ref d3] ++ [.ref d4])) so = some (.lst ([d1, d2, d3, d4].map V.ref)) := upd_same
    clear hd1 hd2 hd3 hd4 hv1 hv2 hv3 hv4 hn1 hn2 hn3 hn4 hf1 hf2 hf3 hf4 hf4' hso e12 e13 e612
    generalize upd H13 so (.lst ([.ref d1, .ref d2, .ref d3] ++ [.ref d4])) = H14 at eS hls hsoL
    have hdl : [d1, d2, d3, d4].length ≤ 4 := Nat.le_refl 4
    generalize [d1, d2, d3, d4] = ds at hls hsoL hdl
    refine q_forLn (K := K) (a := so) (xs := ds.map V.ref) (ev_var rfl) (sq_of hsoL) (fun i σ' H' => ∃ s10, σ' = [some (.ref l), some (.int n), some (.ref a), some (.ref b), s4, s5, some (.ref hd), some (.ref L), some (.ref R), some (.ref so), s10] ∧ Ex H11 H' ∧ H' so = some (.lst (ds.map V.ref)) ∧ ∀ d ∈ ds, ∃ ks, H' d = some (.dK ks) ∧ ks.length ≤ 1000 + i)
      (fun H15 e15 => ⟨none, rfl, eS.trans e15, e15 _ _ hsoL, fun d hdm => let ⟨_, _, ks, h1, h2⟩ := hls d hdm; ⟨ks, e15 _ _ h1, h2⟩⟩) ?_ ?_ ?_
    · rintro i σ' H' _ ⟨s10, rfl, _, h, _⟩
      exact sq_of h
    · rintro i x σ' H15 hx ⟨s10, rfl, eH, hso', hds⟩
      rw [List.getElem?_map] at hx
      cases hd : ds[i]? with
      | none => rw [hd] at hx; cases hx
      | some d =>
        rw [hd] at hx
        obtain rfl := Option.some.inj hx
        have hdm := List.mem_of_getElem? hd
        have hil : i < ds.length := (List.getElem?_eq_some_iff.mp hd).1
        obtain ⟨ks, h1, h2⟩ := hds d hdm
        obtain ⟨hd0, hdso, _⟩ := hls d hdm
        refine s_dputX (P := Tp K [.int 1, .int 1]) (k := .inr (Str.ofString "zz")) (x_tupT (K := K) (by walk_at "ev")) (ev_var rfl) ev_c h1 (by omega) (fun v H1 H2 e ⟨q, a, b⟩ => ⟨q, a, ex_t e b⟩) ?_
        intro v H16 e16 _
        refine ⟨_, rfl, Ex.mut (eH.trans e16) hd0, by rw [upd_ne (Ne.symm hdso)]; exact e16 _ _ hso', fun d' hdm' => ?_⟩
        by_cases c : d' = d
        · subst c
          exact ⟨_, upd_same, Nat.le_trans putK_len (by omega)⟩
        · obtain ⟨ks', h1', h2'⟩ := hds d' hdm'
          exact ⟨ks', by rw [upd_ne c]; exact e16 _ _ h1', by omega⟩
    rintro _ H15 ⟨s10, rfl, eH, _, _⟩
    have e615 := e611.trans eH
    have hL15 := hL11.mono eH
    clear hls hsoL hdl eS eH hL11 e611
    refine q_when (b := false || !true) (et_or (et_test (ev_neNil (x_lacking (ix0 e615 rfl) (ix0 e615 rfl) (hgp.mono e615).rd (hgp.mono e615).rd) fun ns => lack_none fun n s hg => by rw [hg]; exact reach_self s)) fun _ => et_not (et_B (x_same (x_lacking (ix0 e615 rfl) (ix1 e615 rfl) (hgp.mono e615).rd (hgq.mono e615).rd) (ev_var rfl) hL15.rd heL))) (fun hc _ _ => by cases hc) (fun _ H16 e16 => ?_)
    have e616 := e615.trans e16
    clear e615 hL15 e16
    have heO : ∀ ns, ns.Perm (q'.map (·.1)) → (lackP [] q' ns).Perm q' := fun ns h => by
      have h1 : (lackP [] q' ns).Perm (lackP [] q' (q'.map (·.1))) := h.filterMap _
      rw [lack_all hqp hqn] at h1
      exact h1
    refine q_when (b := false || (false || !true)) (et_or (et_test (ev_op (ix0 e616 rfl) (ev_var rfl) (rv_neDict (e616 _ _ hg6) (e616 _ _ hkp6) rfl (hkp2.1.plain hpn)))) fun _ => et_or (et_test (ev_op (ix1 e616 rfl) (ev_var rfl) (rv_neDict (e616 _ _ hg6') (e616 _ _ hkq6) rfl (hkq2.1.plain hqn)))) fun _ => et_not (et_B (x_same (x_lackNil (ix1 e616 rfl) (hgq.mono e616).rd) (ev_var rfl) (hq6.mono e616).rd heO))) (fun hc _ _ => by cases hc) (fun _ H17 e17 => ?_)
    have e617 := e616.trans e17
    clear e616 e17
    have hk17 := e617 _ _ hkp6
    have hkp17 := And.intro (hkp2.1.mono e617) hkp2.2
    refine q_when (b := !decide (knowsB p p = true) || !decide (knowsB p [] = true)) (et_or (et_test (ev_op (x_knowsX (x_dcopy (ev_var rfl) hk17) (x_dcopy (ev_var rfl) hk17) (nw_pg hkp17) (nw_pg hkp17)) ev_c rv_notB)) fun _ => et_test (ev_op (x_knowsX (x_dcopy (ev_var rfl) hk17) x_dnew (nw_pg hkp17) nw_pnil) ev_c rv_notB)) (fun hc _ _ => by rw [knows_self hpn] at hc; cases hc) (fun _ H18 e18 => ?_)
    have e618 := e617.trans e18
    refine s_ret (v := .bl true) (ev_is (ev_call (ea_cons (x_knowsX x_dnew (x_dcopy (ev_var rfl) (e18 _ _ hk17)) nw_pnil (nw_pg (And.intro (hkp17.1.mono e18) hkp17.2))) (ea_cons (ev_eqNil (ev_var rfl) (hp6.mono e618)) ea_nil)) sv_truth) (by rw [knows_nil hpp]; simp)) fun H19 e19 => k H19
end

theorem all_mk {l : PySem.W.OpenLaw} {w : World} {K : PySem.W.Frag} {h : Heap} {mg : Str → Option Value} {fa : Addr} (X : K.In h) (G : h.Ns mainGlobals mg) (hfa : mg "law" = some (.ref fa))
    {f0 : Addr} {od0 an0 : Option Addr} {sl0 : Array (Option Value)} {oc0 kV0 dc0 pm0 cd0 ct0 : Value}
    {f1 : Addr} {od1 an1 : Option Addr} {sl1 : Array (Option Value)} {oc1 kV1 dc1 pm1 cd1 ct1 : Value}
    {f2 : Addr} {od2 an2 : Option Addr} {sl2 : Array (Option Value)} {oc2 kV2 dc2 pm2 cd2 ct2 : Value}
    {f3 : Addr} {od3 an3 : Option Addr} {sl3 : Array (Option Value)} {oc3 kV3 dc3 pm3 cd3 ct3 : Value}
    {f4 : Addr} {od4 an4 : Option Addr} {sl4 : Array (Option Value)} {oc4 kV4 dc4 pm4 cd4 ct4 : Value}
    {f5 : Addr} {od5 an5 : Option Addr} {sl5 : Array (Option Value)} {oc5 kV5 dc5 pm5 cd5 ct5 : Value}
    {f6 : Addr} {od6 an6 : Option Addr} {sl6 : Array (Option Value)} {oc6 kV6 dc6 pm6 cd6 ct6 : Value}
    {f7 : Addr} {od7 an7 : Option Addr} {sl7 : Array (Option Value)} {oc7 kV7 dc7 pm7 cd7 ct7 : Value}
    {f8 : Addr} {od8 an8 : Option Addr} {sl8 : Array (Option Value)} {oc8 kV8 dc8 pm8 cd8 ct8 : Value}
    {f9 : Addr} {od9 an9 : Option Addr} {sl9 : Array (Option Value)} {oc9 kV9 dc9 pm9 cd9 ct9 : Value}
    {f10 : Addr} {od10 an10 : Option Addr} {sl10 : Array (Option Value)} {oc10 kV10 dc10 pm10 cd10 ct10 : Value}
    {f11 : Addr} {od11 an11 : Option Addr} {sl11 : Array (Option Value)} {oc11 kV11 dc11 pm11 cd11 ct11 : Value}
    {f12 : Addr} {od12 an12 : Option Addr} {sl12 : Array (Option Value)} {oc12 kV12 dc12 pm12 cd12 ct12 : Value}
    {f13 : Addr} {od13 an13 : Option Addr} {sl13 : Array (Option Value)} {oc13 kV13 dc13 pm13 cd13 ct13 : Value}
    {f14 : Addr} {od14 an14 : Option Addr} {sl14 : Array (Option Value)} {oc14 kV14 dc14 pm14 cd14 ct14 : Value}
    {f15 : Addr} {od15 an15 : Option Addr} {sl15 : Array (Option Value)} {oc15 kV15 dc15 pm15 cd15 ct15 : Value}
    {p_NOTHING : Addr} {o_NOTHING : Obj}
    (a0 : PySem.W.nsIn K mainGlobals "reaches" = some (some (.ref f0))) (l0 : K.lookup f0 = some ⟨oc0, od0, .func (PySem.W.fnOf "reaches" "reaches" (defArgs s_reaches) (defBody s_reaches) (defScope s_reaches) .none kV0 dc0 pm0 an0 cd0 ct0), sl0⟩) (c0 : PySem.W.codeIn K cd0 "reaches" = true) (k0 : PySem.W.keepIn K (.ref f0) = true)
    (a1 : PySem.W.nsIn K mainGlobals "share_of" = some (some (.ref f1))) (l1 : K.lookup f1 = some ⟨oc1, od1, .func (PySem.W.fnOf "share_of" "share_of" (defArgs s_share_of) (defBody s_share_of) (defScope s_share_of) .none kV1 dc1 pm1 an1 cd1 ct1), sl1⟩) (c1 : PySem.W.codeIn K cd1 "share_of" = true) (k1 : PySem.W.keepIn K (.ref f1) = true)
    (a2 : PySem.W.nsIn K mainGlobals "knows" = some (some (.ref f2))) (l2 : K.lookup f2 = some ⟨oc2, od2, .func (PySem.W.fnOf "knows" "knows" (defArgs s_knows) (defBody s_knows) (defScope s_knows) .none kV2 dc2 pm2 an2 cd2 ct2), sl2⟩) (c2 : PySem.W.codeIn K cd2 "knows" = true) (k2 : PySem.W.keepIn K (.ref f2) = true)
    (a3 : PySem.W.nsIn K mainGlobals "lacking" = some (some (.ref f3))) (l3 : K.lookup f3 = some ⟨oc3, od3, .func (PySem.W.fnOf "lacking" "lacking" (defArgs s_lacking) (defBody s_lacking) (defScope s_lacking) .none kV3 dc3 pm3 an3 cd3 ct3), sl3⟩) (c3 : PySem.W.codeIn K cd3 "lacking" = true) (k3 : PySem.W.keepIn K (.ref f3) = true)
    (a4 : PySem.W.nsIn K mainGlobals "_law_cell_at" = some (some (.ref f4))) (l4 : K.lookup f4 = some ⟨oc4, od4, .func (PySem.W.fnOf "_law_cell_at" "_law_cell_at" (defArgs s_law_cell_at) (defBody s_law_cell_at) (defScope s_law_cell_at) .none kV4 dc4 pm4 an4 cd4 ct4), sl4⟩) (c4 : PySem.W.codeIn K cd4 "_law_cell_at" = true) (k4 : PySem.W.keepIn K (.ref f4) = true)
    (a5 : PySem.W.nsIn K mainGlobals "_law_whole" = some (some (.ref f5))) (l5 : K.lookup f5 = some ⟨oc5, od5, .func (PySem.W.fnOf "_law_whole" "_law_whole" (defArgs s_law_whole) (defBody s_law_whole) (defScope s_law_whole) .none kV5 dc5 pm5 an5 cd5 ct5), sl5⟩) (c5 : PySem.W.codeIn K cd5 "_law_whole" = true) (k5 : PySem.W.keepIn K (.ref f5) = true)
    (a6 : PySem.W.nsIn K mainGlobals "_law_number_by" = some (some (.ref f6))) (l6 : K.lookup f6 = some ⟨oc6, od6, .func (PySem.W.fnOf "_law_number_by" "_law_number_by" (defArgs s_law_number_by) (defBody s_law_number_by) (defScope s_law_number_by) .none kV6 dc6 pm6 an6 cd6 ct6), sl6⟩) (c6 : PySem.W.codeIn K cd6 "_law_number_by" = true) (k6 : PySem.W.keepIn K (.ref f6) = true)
    (a7 : PySem.W.nsIn K mainGlobals "_law_share" = some (some (.ref f7))) (l7 : K.lookup f7 = some ⟨oc7, od7, .func (PySem.W.fnOf "_law_share" "_law_share" (defArgs s_law_share) (defBody s_law_share) (defScope s_law_share) .none kV7 dc7 pm7 an7 cd7 ct7), sl7⟩) (c7 : PySem.W.codeIn K cd7 "_law_share" = true) (k7 : PySem.W.keepIn K (.ref f7) = true)
    (a8 : PySem.W.nsIn K mainGlobals "_law_name_by" = some (some (.ref f8))) (l8 : K.lookup f8 = some ⟨oc8, od8, .func (PySem.W.fnOf "_law_name_by" "_law_name_by" (defArgs s_law_name_by) (defBody s_law_name_by) (defScope s_law_name_by) .none kV8 dc8 pm8 an8 cd8 ct8), sl8⟩) (c8 : PySem.W.codeIn K cd8 "_law_name_by" = true) (k8 : PySem.W.keepIn K (.ref f8) = true)
    (a9 : PySem.W.nsIn K mainGlobals "_law_mixed" = some (some (.ref f9))) (l9 : K.lookup f9 = some ⟨oc9, od9, .func (PySem.W.fnOf "_law_mixed" "_law_mixed" (defArgs s_law_mixed) (defBody s_law_mixed) (defScope s_law_mixed) .none kV9 dc9 pm9 an9 cd9 ct9), sl9⟩) (c9 : PySem.W.codeIn K cd9 "_law_mixed" = true) (k9 : PySem.W.keepIn K (.ref f9) = true)
    (a10 : PySem.W.nsIn K mainGlobals "_law_page_by" = some (some (.ref f10))) (l10 : K.lookup f10 = some ⟨oc10, od10, .func (PySem.W.fnOf "_law_page_by" "_law_page_by" (defArgs s_law_page_by) (defBody s_law_page_by) (defScope s_law_page_by) .none kV10 dc10 pm10 an10 cd10 ct10), sl10⟩) (c10 : PySem.W.codeIn K cd10 "_law_page_by" = true) (k10 : PySem.W.keepIn K (.ref f10) = true)
    (a11 : PySem.W.nsIn K mainGlobals "_law_near_by" = some (some (.ref f11))) (l11 : K.lookup f11 = some ⟨oc11, od11, .func (PySem.W.fnOf "_law_near_by" "_law_near_by" (defArgs s_law_near_by) (defBody s_law_near_by) (defScope s_law_near_by) .none kV11 dc11 pm11 an11 cd11 ct11), sl11⟩) (c11 : PySem.W.codeIn K cd11 "_law_near_by" = true) (k11 : PySem.W.keepIn K (.ref f11) = true)
    (a12 : PySem.W.nsIn K mainGlobals "_law_same" = some (some (.ref f12))) (l12 : K.lookup f12 = some ⟨oc12, od12, .func (PySem.W.fnOf "_law_same" "_law_same" (defArgs s_law_same) (defBody s_law_same) (defScope s_law_same) .none kV12 dc12 pm12 an12 cd12 ct12), sl12⟩) (c12 : PySem.W.codeIn K cd12 "_law_same" = true) (k12 : PySem.W.keepIn K (.ref f12) = true)
    (a13 : PySem.W.nsIn K mainGlobals "_law_truth" = some (some (.ref f13))) (l13 : K.lookup f13 = some ⟨oc13, od13, .func (PySem.W.fnOf "_law_truth" "_law_truth" (defArgs s_law_truth) (defBody s_law_truth) (defScope s_law_truth) .none kV13 dc13 pm13 an13 cd13 ct13), sl13⟩) (c13 : PySem.W.codeIn K cd13 "_law_truth" = true) (k13 : PySem.W.keepIn K (.ref f13) = true)
    (a14 : PySem.W.nsIn K mainGlobals "_law_lacking" = some (some (.ref f14))) (l14 : K.lookup f14 = some ⟨oc14, od14, .func (PySem.W.fnOf "_law_lacking" "_law_lacking" (defArgs s_law_lacking) (defBody s_law_lacking) (defScope s_law_lacking) .none kV14 dc14 pm14 an14 cd14 ct14), sl14⟩) (c14 : PySem.W.codeIn K cd14 "_law_lacking" = true) (k14 : PySem.W.keepIn K (.ref f14) = true)
    (a15 : PySem.W.nsIn K mainGlobals "law" = some (some (.ref f15))) (l15 : K.lookup f15 = some ⟨oc15, od15, .func (PySem.W.fnOf "law" "law" (defArgs s_law) (defBody s_law) (defScope s_law) .none kV15 dc15 pm15 an15 cd15 ct15), sl15⟩) (c15 : PySem.W.codeIn K cd15 "law" = true) (k15 : PySem.W.keepIn K (.ref f15) = true)
    (z_all : PySem.W.nsIn K mainGlobals "all" = some none)
    (z_bool : PySem.W.nsIn K mainGlobals "bool" = some none)
    (z_dict : PySem.W.nsIn K mainGlobals "dict" = some none)
    (z_enumerate : PySem.W.nsIn K mainGlobals "enumerate" = some none)
    (z_int : PySem.W.nsIn K mainGlobals "int" = some none)
    (z_isinstance : PySem.W.nsIn K mainGlobals "isinstance" = some none)
    (z_len : PySem.W.nsIn K mainGlobals "len" = some none)
    (z_list : PySem.W.nsIn K mainGlobals "list" = some none)
    (z_min : PySem.W.nsIn K mainGlobals "min" = some none)
    (z_range : PySem.W.nsIn K mainGlobals "range" = some none)
    (z_sorted : PySem.W.nsIn K mainGlobals "sorted" = some none)
    (z_str : PySem.W.nsIn K mainGlobals "str" = some none)
    (z_tuple : PySem.W.nsIn K mainGlobals "tuple" = some none)
    (g_NOTHING : PySem.W.nsIn K mainGlobals "NOTHING" = some (some (.ref p_NOTHING))) (q_NOTHING : K.lookup p_NOTHING = some o_NOTHING) (r_NOTHING : tupInts o_NOTHING [0, 0] = true) :
    ∃ fd : FuncData, (∀ (s : Shared) (v : Value), BindsTo s fd ⟨[v], []⟩ [("_law_script", v)]) ∧ ∀ base : Heap, K.In base → base.Ns mainGlobals mg → FnOk l.prog w K mg base CX0 4 fa fd ["_law_script"] (spLaw K) := by
  have e := hfa.symm.trans (PySem.W.mg_of X G a15)
  cases e
  have F0 := fun_mk (st := s_reaches) l0 c0 k0
  have b0 := F0.binds (ps := ["one", "other"]) fun _ _ _ _ _ _ us hl => match us, hl with | [_, _], _ => rfl
  have F1 := fun_mk (st := s_share_of) l1 c1 k1
  have b1 := F1.binds (ps := ["page", "name"]) fun _ _ _ _ _ _ us hl => match us, hl with | [_, _], _ => rfl
  have F2 := fun_mk (st := s_knows) l2 c2 k2
  have b2 := F2.binds (ps := ["one", "other"]) fun _ _ _ _ _ _ us hl => match us, hl with | [_, _], _ => rfl
  have F3 := fun_mk (st := s_lacking) l3 c3 k3
  have b3 := F3.binds (ps := ["one", "other"]) fun _ _ _ _ _ _ us hl => match us, hl with | [_, _], _ => rfl
  have F4 := fun_mk (st := s_law_cell_at) l4 c4 k4
  have b4 := F4.binds (ps := ["_law_script", "_law_k"]) fun _ _ _ _ _ _ us hl => match us, hl with | [_, _], _ => rfl
  have F5 := fun_mk (st := s_law_whole) l5 c5 k5
  have b5 := F5.binds (ps := ["_law_found"]) fun _ _ _ _ _ _ us hl => match us, hl with | [_], _ => rfl
  have F6 := fun_mk (st := s_law_number_by) l6 c6 k6
  have b6 := F6.binds (ps := ["_law_cell"]) fun _ _ _ _ _ _ us hl => match us, hl with | [_], _ => rfl
  have F7 := fun_mk (st := s_law_share) l7 c7 k7
  have b7 := F7.binds (ps := ["_law_found", "_law_due"]) fun _ _ _ _ _ _ us hl => match us, hl with | [_, _], _ => rfl
  have F8 := fun_mk (st := s_law_name_by) l8 c8 k8
  have b8 := F8.binds (ps := ["_law_cell"]) fun _ _ _ _ _ _ us hl => match us, hl with | [_], _ => rfl
  have F9 := fun_mk (st := s_law_mixed) l9 c9 k9
  have b9 := F9.binds (ps := ["_law_cell", "_law_k"]) fun _ _ _ _ _ _ us hl => match us, hl with | [_, _], _ => rfl
  have F10 := fun_mk (st := s_law_page_by) l10 c10 k10
  have b10 := F10.binds (ps := ["_law_names", "_law_shares", "_law_size"]) fun _ _ _ _ _ _ us hl => match us, hl with | [_, _, _], _ => rfl
  have F11 := fun_mk (st := s_law_near_by) l11 c11 k11
  have b11 := F11.binds (ps := ["_law_page", "_law_cell"]) fun _ _ _ _ _ _ us hl => match us, hl with | [_, _], _ => rfl
  have F12 := fun_mk (st := s_law_same) l12 c12 k12
  have b12 := F12.binds (ps := ["_law_found", "_law_due"]) fun _ _ _ _ _ _ us hl => match us, hl with | [_, _], _ => rfl
  have F13 := fun_mk (st := s_law_truth) l13 c13 k13
  have b13 := F13.binds (ps := ["_law_found", "_law_due"]) fun _ _ _ _ _ _ us hl => match us, hl with | [_, _], _ => rfl
  have F14 := fun_mk (st := s_law_lacking) l14 c14 k14
  have b14 := F14.binds (ps := ["_law_one", "_law_other"]) fun _ _ _ _ _ _ us hl => match us, hl with | [_, _], _ => rfl
  have F15 := fun_mk (st := s_law) l15 c15 k15
  have b15 := F15.binds (ps := ["_law_script"]) fun _ _ _ _ _ _ us hl => match us, hl with | [_], _ => rfl
  let T : Txt K mg := { a_reaches := f0, d_reaches := _, h_reaches := ⟨PySem.W.mg_of X G a0, F0, b0⟩, a_share_of := f1, d_share_of := _, h_share_of := ⟨PySem.W.mg_of X G a1, F1, b1⟩, a_knows := f2, d_knows := _, h_knows := ⟨PySem.W.mg_of X G a2, F2, b2⟩, a_lacking := f3, d_lacking := _, h_lacking := ⟨PySem.W.mg_of X G a3, F3, b3⟩, a_law_cell_at := f4, d_law_cell_at := _, h_law_cell_at := ⟨PySem.W.mg_of X G a4, F4, b4⟩, a_law_whole := f5, d_law_whole := _, h_law_whole := ⟨PySem.W.mg_of X G a5, F5, b5⟩, a_law_number_by := f6, d_law_number_by := _, h_law_number_by := ⟨PySem.W.mg_of X G a6, F6, b6⟩, a_law_share := f7, d_law_share := _, h_law_share := ⟨PySem.W.mg_of X G a7, F7, b7⟩, a_law_name_by := f8, d_law_name_by := _, h_law_name_by := ⟨PySem.W.mg_of X G a8, F8, b8⟩, a_law_mixed := f9, d_law_mixed := _, h_law_mixed := ⟨PySem.W.mg_of X G a9, F9, b9⟩, a_law_page_by := f10, d_law_page_by := _, h_law_page_by := ⟨PySem.W.mg_of X G a10, F10, b10⟩, a_law_near_by := f11, d_law_near_by := _, h_law_near_by := ⟨PySem.W.mg_of X G a11, F11, b11⟩, a_law_same := f12, d_law_same := _, h_law_same := ⟨PySem.W.mg_of X G a12, F12, b12⟩, a_law_truth := f13, d_law_truth := _, h_law_truth := ⟨PySem.W.mg_of X G a13, F13, b13⟩, a_law_lacking := f14, d_law_lacking := _, h_law_lacking := ⟨PySem.W.mg_of X G a14, F14, b14⟩, a_law := fa, d_law := _, h_law := ⟨PySem.W.mg_of X G a15, F15, b15⟩, n_all := PySem.W.mg_none_of X G z_all, n_bool := PySem.W.mg_none_of X G z_bool, n_dict := PySem.W.mg_none_of X G z_dict, n_enumerate := PySem.W.mg_none_of X G z_enumerate, n_int := PySem.W.mg_none_of X G z_int, n_isinstance := PySem.W.mg_none_of X G z_isinstance, n_len := PySem.W.mg_none_of X G z_len, n_list := PySem.W.mg_none_of X G z_list, n_min := PySem.W.mg_none_of X G z_min, n_range := PySem.W.mg_none_of X G z_range, n_sorted := PySem.W.mg_none_of X G z_sorted, n_str := PySem.W.mg_none_of X G z_str, n_tuple := PySem.W.mg_none_of X G z_tuple, p_NOTHING := p_NOTHING, g_NOTHING := ⟨PySem.W.mg_of X G g_NOTHING, rfl⟩, t_NOTHING := fun H => sqT_written q_NOTHING r_NOTHING }
  exact ⟨_, fun s v => .of_eq rfl, fun base _ _ => ok_law T⟩
theorem walk {l : PySem.W.OpenLaw} {q : Program} {loose : List Str} {XP : (Str → Option Value) → Heap → Prop} {YP : World → Heap → Prop} {d : DefRec} {K : Params → PySem.W.Frag} (hn : l.most = some 63) (hdf : d.params.defaults = [])
    (hY : ∀ (w : World) (h : Heap), YP w h → (K w.params).In h)
    (F : ∀ (w : World) (mg : Str → Option Value) (fa : Addr) (h : Heap), (K w.params).In h → h.Ns mainGlobals mg → mg d.name = some (.ref fa) →
      ∃ fd : FuncData, (∀ (s : Shared) (u : Value), BindsTo s fd ⟨[u], []⟩ [("_law_script", u)]) ∧ ∀ base : Heap, (K w.params).In base → base.Ns mainGlobals mg → FnOk l.prog w (K w.params) mg base CX0 4 fa fd ["_law_script"] (spLaw (K w.params))) :
    PySem.W.WalkO q loose XP YP l.row.toRowW d [] (fun f vs => PySem.call f vs) :=
  L2.walk_of (n := 63) (k := 4) (x := "_law_script") (CX := fun _ => CX0) (sp := fun w => spLaw (K w.params)) hn (by decide) hdf ⟨rfl, by decide, by decide⟩ hY F (fun _ _ a ns hl _ hS => ⟨a, ns, rfl, hS, hl, fun _ => rfl⟩) fun _ _ _ _ _ z => z
end GC
open PySem PySem.W PyProof.Rows
set_option maxRecDepth 100000 in
set_option maxHeartbeats 0 in
theorem PySem.Challenge.cw_gossipcount_k06_pages_lacking_holds : PySem.Challenge.rw_gossipcount_k06_pages_lacking.Holds := by
  w_on; o_law; k_head; (case hw => w_witness2)
  k_fill
  refine GC.walk (l := PySem.Challenge.rw_gossipcount_k06_pages_lacking) rfl rfl (fun w h Y => PySem.W.kIn_of Y) ?F
  case F =>
    intro w mg fa h KX G hmg
    refine' GC.all_mk KX G hmg ?a0 ?l0 ?c0 ?k0 ?a1 ?l1 ?c1 ?k1 ?a2 ?l2 ?c2 ?k2 ?a3 ?l3 ?c3 ?k3 ?a4 ?l4 ?c4 ?k4 ?a5 ?l5 ?c5 ?k5 ?a6 ?l6 ?c6 ?k6 ?a7 ?l7 ?c7 ?k7 ?a8 ?l8 ?c8 ?k8 ?a9 ?l9 ?c9 ?k9 ?a10 ?l10 ?c10 ?k10 ?a11 ?l11 ?c11 ?k11 ?a12 ?l12 ?c12 ?k12 ?a13 ?l13 ?c13 ?k13 ?a14 ?l14 ?c14 ?k14 ?a15 ?l15 ?c15 ?k15 ?z_all ?z_bool ?z_dict ?z_enumerate ?z_int ?z_isinstance ?z_len ?z_list ?z_min ?z_range ?z_sorted ?z_str ?z_tuple ?g_NOTHING ?q_NOTHING ?r_NOTHING
    (case a0 => k_is)
    (case l0 => k_is)
    (case c0 => k_is)
    (case k0 => k_is)
    (case a1 => k_is)
    (case l1 => k_is)
    (case c1 => k_is)
    (case k1 => k_is)
    (case a2 => k_is)
    (case l2 => k_is)
    (case c2 => k_is)
    (case k2 => k_is)
    (case a3 => k_is)
    (case l3 => k_is)
    (case c3 => k_is)
    (case k3 => k_is)
    (case a4 => k_is)
    (case l4 => k_is)
    (case c4 => k_is)
    (case k4 => k_is)
    (case a5 => k_is)
    (case l5 => k_is)
    (case c5 => k_is)
    (case k5 => k_is)
    (case a6 => k_is)
    (case l6 => k_is)
    (case c6 => k_is)
    (case k6 => k_is)
    (case a7 => k_is)
    (case l7 => k_is)
    (case c7 => k_is)
    (case k7 => k_is)
    (case a8 => k_is)
    (case l8 => k_is)
    (case c8 => k_is)
    (case k8 => k_is)
    (case a9 => k_is)
    (case l9 => k_is)
    (case c9 => k_is)
    (case k9 => k_is)
    (case a10 => k_is)
    (case l10 => k_is)
    (case c10 => k_is)
    (case k10 => k_is)
    (case a11 => k_is)
    (case l11 => k_is)
    (case c11 => k_is)
    (case k11 => k_is)
    (case a12 => k_is)
    (case l12 => k_is)
    (case c12 => k_is)
    (case k12 => k_is)
    (case a13 => k_is)
    (case l13 => k_is)
    (case c13 => k_is)
    (case k13 => k_is)
    (case a14 => k_is)
    (case l14 => k_is)
    (case c14 => k_is)
    (case k14 => k_is)
    (case a15 => k_is)
    (case l15 => k_is)
    (case c15 => k_is)
    (case k15 => k_is)
    (case z_all => k_is)
    (case z_bool => k_is)
    (case z_dict => k_is)
    (case z_enumerate => k_is)
    (case z_int => k_is)
    (case z_isinstance => k_is)
    (case z_len => k_is)
    (case z_list => k_is)
    (case z_min => k_is)
    (case z_range => k_is)
    (case z_sorted => k_is)
    (case z_str => k_is)
    (case z_tuple => k_is)
    (case g_NOTHING => k_is)
    (case q_NOTHING => k_is)
    (case r_NOTHING => rfl)
