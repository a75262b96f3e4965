import PyProof.Rows.All
import Wide.All
import OpenK.AllK
import Wide.FinOn
import HandS.ForMost
import HandS.Evl
import HandS.IsInst
import HandS.Style
import HandS.DictComp
import HandS.SortInts
import HandS.SetKeys

import HandS.Walk
import PySem.Challenge.RW_gossipcount_k04_pages_or_not
set_option Elab.async false
set_option linter.all false
set_option maxRecDepth 100000
set_option maxHeartbeats 4000000
namespace GC
open PySem L2 Evl
/-! ### values told by a predicate, over heaps that only grow -/
abbrev VP := V → Hp → Prop
class Mono (P : VP) : Prop where
  mono : ∀ {v : V} {H H' : Hp}, Ex H H' → P v H → P v H'
def Is (v0 : V) : VP := fun v _ => v = v0
instance {v0 : V} : Mono (Is v0) := ⟨fun _ h => h⟩
/-- a tuple of these values, a list of these values, wherever it stands -/
def Tp (K : PySem.W.Frag) (xs : List V) : VP := fun v H => ∃ p, v = .ref p ∧ SqT K H p xs
def Ls (K : PySem.W.Frag) (xs : List V) : VP := fun v H => ∃ p, v = .ref p ∧ SqL K H p xs
instance {K : PySem.W.Frag} {xs : List V} : Mono (Tp K xs) := ⟨fun e ⟨p, a, b⟩ => ⟨p, a, ex_t e b⟩⟩
instance {K : PySem.W.Frag} {xs : List V} : Mono (Ls K xs) := ⟨fun e ⟨p, a, b⟩ => ⟨p, a, ex_l e b⟩⟩
/-- a new object -/
def Nw (H : Hp) (o : HO) : VP := fun v H2 => ∃ p, v = .ref p ∧ H p = none ∧ H2 p = some o
instance {H : Hp} {o : HO} : Mono (Nw H o) := ⟨fun e ⟨p, a, b, c⟩ => ⟨p, a, b, e p _ c⟩⟩
def EvX (te : TE) (σ : L2.St) (H : Hp) (P : VP) : Prop := ∀ H1, Ex H H1 → ∀ Q : VK, (∀ v H2, Ex H1 H2 → P v H2 → Q v H2) → te σ H1 Q
def EvXA (ta : TA) (σ : L2.St) (H : Hp) (P : List V → Hp → Prop) : Prop := ∀ H1, Ex H H1 → ∀ Q : List V → Hp → Prop, (∀ vs H2, Ex H1 H2 → P vs H2 → Q vs H2) → ta σ H1 Q
def SpX (sp : Sp) (vs : List V) (H : Hp) (P : VP) : Prop := ∀ H1, Ex H H1 → ∀ (Q : VK) (E : XK), (∀ v H2, Ex H1 H2 → P v H2 → Q v H2) → sp vs H1 Q E
def Ret (P : VP) (H : Hp) (Q : VK) : Prop := ∀ v H2, Ex H H2 → P v H2 → Q v H2
/-- a def that changes nothing that stood: its arguments by x, what must hold of them, what is told -/
def SpF {α : Type} (args : α → List V) (Pre : α → Hp → Prop) (Post : α → Hp → VP) : Sp := fun vs H Q _ => ∃ x : α, vs = args x ∧ Pre x H ∧ Ret (Post x H) H Q
section
variable {K : PySem.W.Frag} {σ : L2.St} {H H' : Hp} {ta tb te tx : TE} {t u : TT} {x y z v : V} {P P' R : VP}
theorem sx_of {α : Type} {args : α → List V} {Pre : α → Hp → Prop} {Post : α → Hp → VP} (x : α) (hm : ∀ H1, Ex H H1 → Pre x H1) (hp : ∀ H1 v H2, Ex H H1 → Ex H1 H2 → Post x H1 v H2 → P v H2) : SpX (SpF args Pre Post) (args x) H P :=
  fun H1 e Q _ q => ⟨x, rfl, hm H1 e, fun v H2 e2 h => q v H2 e2 (hp H1 v H2 e e2 h)⟩
theorem sv_of {sp : Sp} {vs : List V} (h : SpX sp vs H (Is v)) : SpV sp vs H v := fun H1 e Q q E => h H1 e Q E fun w H2 e2 hw => by
  cases (show w = v from hw)
  exact q H2 e2
theorem x_ev (h : Ev te σ H v) : EvX te σ H (Is v) := fun H1 e Q q => h H1 e Q fun H2 e2 => q v H2 e2 rfl
theorem ev_x (h : EvX te σ H (Is v)) : Ev te σ H v := fun H1 e Q q => h H1 e Q fun w H2 e2 hw => by
  cases (show w = v from hw)
  exact q H2 e2
theorem x_is (h : Ev te σ H v) (hp : ∀ H1, Ex H H1 → P v H1) : EvX te σ H P := fun H1 e Q q => h H1 e Q fun H2 e2 => q v H2 e2 (hp H2 (e.trans e2))
theorem EvX.mono (e : Ex H H') (h : EvX te σ H P) : EvX te σ H' P := fun H1 a Q q => h H1 (e.trans a) Q q
theorem EvX.imp (h : EvX te σ H P) (hp : ∀ v H1, Ex H H1 → P v H1 → R v H1) : EvX te σ H R := fun H1 e Q q => h H1 e Q fun w H2 e2 hw => q w H2 e2 (hp w H2 (e.trans e2) hw)
theorem x_tup {ta : TA} {vs : List V} (h : EvA ta σ H vs) (hl : vs.length ≤ 100000 := by exact Nat.le_of_ble_eq_true rfl) : EvX (tTup ta) σ H (Nw H (.tup vs)) := fun H1 e Q q =>
  eu_tup h hl H1 e Q fun p H2 hp e2 h2 => q _ H2 e2 ⟨p, rfl, fresh_back e hp, h2⟩
theorem x_lst {ta : TA} {vs : List V} (h : EvA ta σ H vs) (hl : vs.length ≤ 100000 := by exact Nat.le_of_ble_eq_true rfl) : EvX (tLst ta) σ H (Nw H (.lst vs)) := fun H1 e Q q =>
  el_lst h hl H1 e Q fun p H2 hp e2 h2 => q _ H2 e2 ⟨p, rfl, fresh_back e hp, h2⟩
theorem x_dnew : EvX tDNewK σ H (Nw H (.dK [])) := fun H1 e Q q => fun p hp => q _ _ (Ex.new hp) ⟨p, rfl, fresh_back e hp, upd_same⟩
theorem nw_tp {xs : List V} : ∀ v H1, Ex H H1 → Nw H (.tup xs) v H1 → Tp K xs v H1 := fun _ _ _ ⟨p, a, _, c⟩ => ⟨p, a, st_of c⟩
theorem nw_ls {xs : List V} : ∀ v H1, Ex H H1 → Nw H (.lst xs) v H1 → Ls K xs v H1 := fun _ _ _ ⟨p, a, _, c⟩ => ⟨p, a, sq_of c⟩
theorem nw_t {H0 H1 : Hp} {xs : List V} {v : V} : Nw H0 (.tup xs) v H1 → Tp K xs v H1 := fun ⟨p, a, _, c⟩ => ⟨p, a, st_of c⟩
theorem nw_l {H0 H1 : Hp} {xs : List V} {v : V} : Nw H0 (.lst xs) v H1 → Ls K xs v H1 := fun ⟨p, a, _, c⟩ => ⟨p, a, sq_of c⟩
theorem x_tupT {ta : TA} {vs : List V} (h : EvA ta σ H vs) (hl : vs.length ≤ 100000 := by exact Nat.le_of_ble_eq_true rfl) : EvX (tTup ta) σ H (Tp K vs) := (x_tup h hl).imp nw_tp
theorem x_tupM {ta : TA} {vs : List V} (h : EvA ta σ H vs) (hl : vs.length ≤ 100000) : EvX (tTup ta) σ H (Tp K vs) := (x_tup h hl).imp nw_tp
theorem ax_nil : EvXA tNil σ H (fun vs _ => vs = []) := fun H1 _ Q q => q [] H1 (Ex.refl H1) rfl
theorem ax_cons {tr : TA} {PA : List V → Hp → Prop} [Mono P] (h : EvX te σ H P) (hr : EvXA tr σ H PA) : EvXA (tCons te tr) σ H (fun vs H2 => ∃ v r, vs = v :: r ∧ P v H2 ∧ PA r H2) := fun H1 e Q q =>
  h H1 e _ fun v H2 e2 hv => hr H2 (e.trans e2) _ fun r H3 e3 hr' => q _ H3 (e2.trans e3) ⟨v, r, rfl, Mono.mono e3 hv, hr'⟩
theorem x_call {sp : Sp} {dvs : List V} {E : XK} {ta : TA} {PA : List V → Hp → Prop} (h : EvXA ta σ H PA) (hs : ∀ vs H1, Ex H H1 → PA vs H1 → SpX sp (vs ++ dvs) H1 P) : EvX (tCall sp dvs E ta) σ H P := fun H1 e Q q =>
  h H1 e _ fun vs H2 e2 hv => hs vs H2 (e.trans e2) hv H2 (Ex.refl H2) Q E fun v H3 e3 hp => q v H3 (e2.trans e3) hp
theorem x_if {b : Bool} (h : EvT t σ H b) (h1 : b = true → EvX ta σ H P) (h2 : b = false → EvX tb σ H P) : EvX (tIf t ta tb) σ H P := fun H1 e Q q => h H1 e _ fun H2 e2 => by
  cases b with
  | true => exact h1 rfl H2 (e.trans e2) Q fun v H3 e3 hv => q v H3 (e2.trans e3) hv
  | false => exact h2 rfl H2 (e.trans e2) Q fun v H3 e3 hv => q v H3 (e2.trans e3) hv
theorem ev_ifI {b : Bool} {i j : Int} (h : EvT t σ H b) (h1 : Ev ta σ H (.int i)) (h2 : Ev tb σ H (.int j)) : Ev (tIf t ta tb) σ H (.int (if b = true then i else j)) :=
  ev_if h (fun e => by rw [if_pos e]; exact h1) (fun e => by rw [if_neg (by rw [e]; exact Bool.false_ne_true)]; exact h2)
variable {D : Ends} {tu tw tz : TS}
theorem qx_asg {i : Nat} (h : EvX te σ H P) (k : ∀ v H1, Ex H H1 → P v H1 → tz D (σ.set i (some v)) H1) : tSeq (tAsg te (gName i)) tz D σ H := h H (Ex.refl H) _ fun v H1 e hp => k v H1 e hp
theorem sx_asg {i : Nat} (h : EvX te σ H P) (k : ∀ v H1, Ex H H1 → P v H1 → D.nx (σ.set i (some v)) H1) : tAsg te (gName i) D σ H := h H (Ex.refl H) _ fun v H1 e hp => k v H1 e hp
theorem sx_ret (h : EvX te σ H P) (k : ∀ v H1, Ex H H1 → P v H1 → D.rt v H1) : tRet te D σ H := h H (Ex.refl H) _ fun v H1 e hp => k v H1 e hp
end
section
variable {K : PySem.W.Frag} {σ : L2.St} {H H' : Hp} {ta tb te tx : TE} {t u : TT} {x y z v : V} {P P' R : VP}
theorem x_call1 {sp : Sp} {E : XK} {P1 : VP} (h1 : EvX ta σ H P1) (hs : ∀ v1 H1, Ex H H1 → P1 v1 H1 → SpX sp [v1] H1 P) : EvX (tCall sp [] E (tCons ta tNil)) σ H P := fun H1 e Q q =>
  h1 H1 e _ fun v1 H2 e2 p1 => hs v1 H2 (e.trans e2) p1 H2 (Ex.refl H2) Q E fun v H3 e3 hp => q v H3 (e2.trans e3) hp
theorem x_call2 {sp : Sp} {E : XK} {P1 P2 : VP} [Mono P1] (h1 : EvX ta σ H P1) (h2 : EvX tb σ H P2) (hs : ∀ v1 v2 H1, Ex H H1 → P1 v1 H1 → P2 v2 H1 → SpX sp [v1, v2] H1 P) : EvX (tCall sp [] E (tCons ta (tCons tb tNil))) σ H P := fun H1 e Q q =>
  h1 H1 e _ fun v1 H2 e2 p1 => h2 H2 (e.trans e2) _ fun v2 H3 e3 p2 => hs v1 v2 H3 ((e.trans e2).trans e3) (Mono.mono e3 p1) p2 H3 (Ex.refl H3) Q E fun v H4 e4 hp => q v H4 ((e2.trans e3).trans e4) hp
theorem x_varT {i : Nat} {p : Addr} {xs : List V} (h : σ[i]? = some (some (.ref p))) (hq : SqT K H p xs) : EvX (tVar i) σ H (Tp K xs) := x_is (ev_var h) fun _ e => ⟨p, rfl, ex_t e hq⟩
theorem x_varL {i : Nat} {p : Addr} {xs : List V} (h : σ[i]? = some (some (.ref p))) (hq : SqL K H p xs) : EvX (tVar i) σ H (Ls K xs) := x_is (ev_var h) fun _ e => ⟨p, rfl, ex_l e hq⟩
theorem ev_lenT {p : Addr} {xs : List V} (ha : Ev ta σ H (.ref p)) (h : SqT K H p xs) : Ev (tCB (rLenS K) (tCons ta tNil)) σ H (.int (xs.length : Int)) := fun H1 e Q q =>
  ha H1 e _ fun H2 e2 => ⟨p, xs, rfl, Or.inr (ex_t (e.trans e2) h), q H2 e2⟩
def rMin2 : List V → Hp → VK → Prop := fun xs H Q => ∃ i j, xs = [.int i, .int j] ∧ Q (.int (if j < i then j else i)) H
theorem ev_min2 {i j : Int} (ha : Ev ta σ H (.int i)) (hb : Ev tb σ H (.int j)) : Ev (tCB rMin2 (tCons ta (tCons tb tNil))) σ H (.int (if j < i then j else i)) := fun H1 e Q q =>
  ha H1 e _ fun H2 e2 => hb H2 (e.trans e2) _ fun H3 e3 => ⟨i, j, rfl, q H3 (e2.trans e3)⟩
/-- isinstance(x, T) -/
theorem ev_isi {a T : String} {b : Bool} (h : Ev tx σ H x) (hty : ∀ H1, Ex H H1 → TyX K H1 x (.type a)) (hb : kitB a T = some b) : Ev (tCB (rIsi K) (tCons tx (tCons (tC (.ty T)) tNil))) σ H (.bl b) := fun H1 e Q q =>
  h H1 e _ fun H2 e2 => ⟨x, .ty T, .type a, .type T, b, rfl, .ty T, hty H2 (e.trans e2), kit_ty hb, q H2 e2⟩
theorem tyx_tup {H : Hp} {p : Addr} {xs : List V} (h : SqT K H p xs) : TyX K H (.ref p) (.type "tuple") := by
  rcases h with (h | ⟨o, h⟩) | ⟨o, its, n, h1, h2, _⟩
  · exact .base (.tup h)
  · exact .fTuple h
  · exact .kTuple h1 h2
theorem tyx_lst {H : Hp} {p : Addr} {xs : List V} (h : SqL K H p xs) : TyX K H (.ref p) (.type "list") := by
  rcases h with (h | ⟨o, h⟩) | ⟨o, its, n, h1, h2, _⟩
  · exact .base (.lst h)
  · exact .base (.frz h)
  · exact .kList h1 h2
end
section
variable {K : PySem.W.Frag} {H : Hp} {x : V}
theorem rc_lenT {p : Addr} {xs : List V} (h : SqT K H p xs) : RC (rLenS K) [.ref p] H (.int (xs.length : Int)) := fun H1 e _ q => ⟨p, xs, rfl, Or.inr (ex_t e h), q H1 (Ex.refl H1)⟩
theorem rc_lenL {p : Addr} {xs : List V} (h : SqL K H p xs) : RC (rLenS K) [.ref p] H (.int (xs.length : Int)) := fun H1 e _ q => ⟨p, xs, rfl, Or.inl (ex_l e h), q H1 (Ex.refl H1)⟩
def rLenStr : List V → Hp → VK → Prop := fun xs H Q => ∃ z : Str, xs = [.str z] ∧ z.length ≤ sizeLine ∧ Q (.int z.length) H
theorem rc_lenStr {z : Str} (h : z.length ≤ 100000) : RC rLenStr [.str z] H (.int (z.length : Int)) := fun H1 _ _ q => ⟨z, rfl, sz_of h, q H1 (Ex.refl H1)⟩
theorem rc_max2 {i j : Int} : RC rMax2 [.int i, .int j] H (.int (if j > i then j else i)) := fun H1 _ _ q => ⟨i, j, rfl, q H1 (Ex.refl H1)⟩
theorem rc_min2 {i j : Int} : RC rMin2 [.int i, .int j] H (.int (if j < i then j else i)) := fun H1 _ _ q => ⟨i, j, rfl, q H1 (Ex.refl H1)⟩
theorem rc_isi {a T : String} {b : Bool} (hty : ∀ H1, Ex H H1 → TyX K H1 x (.type a)) (hb : kitB a T = some b) : RC (rIsi K) [x, .ty T] H (.bl b) := fun H1 e _ q =>
  ⟨x, .ty T, .type a, .type T, b, rfl, .ty T, hty H1 e, kit_ty hb, q H1 (Ex.refl H1)⟩
end
/-- what stands where a def's name points -/
structure Has (K : PySem.W.Frag) (mg : Str → Option Value) (x : Str) (st : Stmt) (ps : List Str) (f : Addr) (fd : FuncData) : Prop where
  m : mg x = some (.ref f)
  F : Fun K x x st f fd
  b : Binds K fd ps []
def tupInts (o : Obj) (ns : List Int) : Bool := match o.cls, o.data with
  | .type "tuple", .seq its _ => decide (its.size ≤ 1000) && decide (its.toList.map absV = ns.map fun i => some (V.int i))
  | _, _ => false
theorem absV_inv {v : V} {u : Value} (h : absV u = some v) : RelV v u := by
  cases u <;> simp only [absV] at h <;> first | (cases h; done) | (injection h with h; subst h; first | exact rfl | exact ⟨_, rfl⟩)
theorem vals_abs : ∀ {us : List Value} {xs : List V}, us.map absV = xs.map some → Vals xs us
  | [], [], _ => .nil
  | [], _ :: _, h => by cases h
  | _ :: _, [], h => by cases h
  | u :: us, x :: xs, h => by
    rw [List.map_cons, List.map_cons, List.cons.injEq] at h
    exact .cons (absV_inv h.1) (vals_abs h.2)
theorem sqT_written {K : PySem.W.Frag} {H : Hp} {a : Addr} {o : Obj} {ns : List Int} (h : K.lookup a = some o) (t : tupInts o ns = true) : SqT K H a (ns.map V.int) := by
  obtain ⟨cl, dd, dt, sl⟩ := o
  unfold tupInts at t
  split at t
  · rename_i its n e1 e2
    rw [Bool.and_eq_true] at t
    have h1 := of_decide_eq_true t.1
    have h2 := of_decide_eq_true t.2
    refine .inr ⟨_, its, n, h, e1, e2, Nat.le_trans h1 (by decide), vals_abs ?_⟩
    rw [h2, List.map_map]
    rfl
  · cases t
/-! ### steps of my own -/
local macro_rules | `(tactic| walk_at "ex") => `(tactic| first | assumption | exact Ex.refl _ | (apply Ex.trans; rotate_left; assumption; walk_at "ex"))
local macro_rules | `(tactic| walk_at "sv") => `(tactic| assumption)
local macro_rules | `(tactic| walk_at "sq") => `(tactic| first | assumption | (apply ex_t; rotate_left; assumption; walk_at "ex") | (apply ex_l; rotate_left; assumption; walk_at "ex") | (refine st_of ?_; assumption) | (refine sq_of ?_; assumption))
local macro_rules | `(tactic| walk_at "ty") => `(tactic| first | exact fun _ _ => .base (.int _) | exact fun _ _ => .base (.bl _) | exact fun _ _ => .base (.str _) | exact fun _ _ => .base .non | exact fun _ ez => tyx_tup (ex_t ez (by walk_at "sq")) | exact fun _ ez => tyx_lst (ex_l ez (by walk_at "sq")))
local macro_rules | `(tactic| walk_at "pos") => `(tactic| first | (show (0 : Int) < _; decide) | exact ⟨by decide, by decide⟩ | exact ⟨by decide, by decide, by decide⟩ | (show (0 : Int) < _; omega) | (refine ⟨?_, ?_⟩ <;> omega) | (refine Or.inl ⟨?_, ?_⟩ <;> omega) | (refine Or.inr ⟨?_, ?_⟩ <;> omega) | (show (0 : Int) < _; decide +kernel))
local macro_rules | `(tactic| walk_at "rv") => `(tactic| first
  | with_reducible exact rv_I0
  | ((with_reducible apply rv_I); walk_at "pos")
  | ((with_reducible apply rv_eq); exact rfl)
  | ((with_reducible apply rv_ne); exact rfl)
  | ((with_reducible apply rv_ixT); (focus (walk_at "sq")); exact rfl)
  | ((with_reducible apply rv_ixL); (focus (walk_at "sq")); exact rfl))
local macro_rules | `(tactic| walk_at "rc") => `(tactic| first
  | ((with_reducible apply rc_isi (b := true)); (focus (walk_at "ty")); decide +kernel)
  | ((with_reducible apply rc_isi (b := false)); (focus (walk_at "ty")); decide +kernel)
  | (apply rc_lenT; walk_at "sq")
  | (apply rc_lenL; walk_at "sq")
  | exact rc_max2
  | exact rc_min2)
local macro_rules | `(tactic| walk_at "ev") => `(tactic| first
  | ((with_reducible apply ev_var); exact rfl)
  | with_reducible exact ev_c
  | with_reducible exact ea_nil
  | ((with_reducible apply ea_cons) <;> walk_at "ev")
  | ((with_reducible apply ev_op); (focus (walk_at "ev")); (focus (walk_at "ev")); walk_at "rv")
  | ((with_reducible apply ev_cb); (focus (walk_at "ev")); walk_at "rc")
  | ((with_reducible apply et_test); walk_at "ev")
  | ((with_reducible apply et_B); walk_at "ev")
  | ((with_reducible apply et_not); walk_at "ev")
  | ((with_reducible apply ev_notV); walk_at "ev")
  | ((with_reducible apply ev_ifI) <;> walk_at "ev")
  | ((with_reducible apply et_or); (focus (walk_at "ev")); (intro _; walk_at "ev"))
  | ((with_reducible apply et_and); (focus (walk_at "ev")); (intro _; walk_at "ev"))
  | ((with_reducible apply ev_orV); (focus (walk_at "ev")); (intro _; walk_at "ev"))
  | ((with_reducible apply ev_andV); (focus (walk_at "ev")); (intro _; walk_at "ev"))
  | walk_at "xc")
local macro_rules | `(tactic| walk_at "xc") => `(tactic| ((with_reducible apply ev_call); (focus (walk_at "ev")); (focus (walk_at "sv"))))
local macro_rules | `(tactic| walk_at "xv") => `(tactic| first
  | assumption
  | ((with_reducible apply x_tupM); (focus (walk_at "ev")); exact Nat.le_of_ble_eq_true rfl)
  | ((with_reducible apply x_varT); (focus (exact rfl)); walk_at "sq")
  | ((with_reducible apply x_varL); (focus (exact rfl)); walk_at "sq")
  | ((with_reducible apply x_ev); walk_at "ev"))

/-! ### texts by their signs -/
def sg (c : Nat) : Str := ⟨#[c]⟩
def ofL (cs : List Nat) : Str := ⟨cs.toArray⟩
theorem str_ext {a b : Str} (h : a.cps.toList = b.cps.toList) : a = b := by
  cases a; cases b
  congr 1
  exact Array.toList_inj.mp h
theorem ofL_len (cs : List Nat) : (ofL cs).length = cs.length := by show cs.toArray.size = _; simp
theorem ofL_tl (cs : List Nat) : (ofL cs).cps.toList = cs := rfl
theorem ofL_app (a b : List Nat) : ofL a ++ ofL b = ofL (a ++ b) := str_ext (by
  show (a.toArray ++ b.toArray).toList = (a ++ b)
  simp)
theorem ofL_eta (z : Str) : ofL z.cps.toList = z := str_ext rfl
theorem joinL_nil : ∀ ps : List (List Nat), TL.joinL [] ps = ps.flatten
  | [] => rfl
  | [p] => by simp [TL.joinL]
  | p :: q :: r => by
    show p ++ ([] ++ TL.joinL [] (q :: r)) = _
    rw [joinL_nil (q :: r)]
    simp
theorem join_sg (cs : List Nat) : Txt.join (Str.ofString "") (cs.map sg) = ofL cs := by
  rw [TL.join_eq]
  refine str_ext ?_
  show TL.tl (Str.join _ _) = cs
  rw [TL.tl_join]
  have e : TL.tl (Str.ofString "") = [] := by rw [TL.tl_ofString]; rfl
  rw [e, joinL_nil, List.map_map]
  have e2 : (TL.tl ∘ sg) = fun c => [c] := rfl
  rw [e2]
  induction cs with
  | nil => rfl
  | cons c r ih => simp [ih]
theorem sg_len (cs : List Nat) : ((cs.map sg).map (·.length)).sum = cs.length := by
  induction cs with
  | nil => rfl
  | cons c r ih =>
    rw [List.map_cons, List.map_cons, List.sum_cons, ih]
    show 1 + r.length = r.length + 1
    omega
theorem atI_of {α : Type} {xs : List α} {i : Int} {v : α} (h0 : 0 ≤ i) (h : xs[i.toNat]? = some v) : atI xs i = some v := by
  have e0 : ((i.toNat : Nat) : Int) = i := by omega
  rw [← e0]
  exact atI_nat h
theorem atI_in {xs : List Nat} {i : Int} (h0 : 0 ≤ i) (h1 : i < (xs.length : Int)) : atI xs i = some (xs[i.toNat]?.getD 0) := by
  have e0 : ((i.toNat : Nat) : Int) = i := by omega
  have hlt : i.toNat < xs.length := by omega
  rw [← e0]
  refine atI_nat ?_
  rw [e0, List.getElem?_eq_getElem hlt]
  rfl
section
variable {K : PySem.W.Frag} {σ : L2.St} {H H' : Hp} {ta tb tc te tl' to : TE} {x y z w : V} {r r' : R2}
theorem ev_chain {b1 b2 : Bool} (ha : Ev ta σ H x) (hb : Ev tb σ H y) (h1 : RV r x y H (.bl b1)) (hc : b1 = true → Ev tc σ H w) (h2 : b1 = true → RV r' y w H (.bl b2)) : Ev (tChain r r' ta tb tc) σ H (.bl (b1 && b2)) := fun H1 e Q q =>
  ha H1 e _ fun H2 e2 => hb H2 (e.trans e2) _ fun H3 e3 => h1 H3 ((e.trans e2).trans e3) _ fun H4 e4 => ⟨b1, rfl, by
    cases b1 with
    | true =>
      show tc σ H4 _
      exact hc rfl H4 (((e.trans e2).trans e3).trans e4) _ fun H5 e5 => h2 rfl H5 ((((e.trans e2).trans e3).trans e4).trans e5) Q fun H6 e6 => q H6 ((((e2.trans e3).trans e4).trans e5).trans e6)
    | false =>
      show Q (.bl false) H4
      exact q H4 ((e2.trans e3).trans e4)⟩
def rLeStr : R2 := fun x y H Q => ∃ i j, x = .str i ∧ y = .str j ∧ Q (.bl (!decide (j.cps.toList < i.cps.toList))) H
def rNotInS' : R2 := fun x y H Q => ∃ (c : Nat) (z : Str), x = .str ⟨#[c]⟩ ∧ y = .str z ∧ Q (.bl (!decide (c ∈ z.cps.toList))) H
def rAddStr : R2 := fun x y H Q => ∃ i j, x = .str i ∧ y = .str j ∧ i.length + j.length ≤ sizeLine ∧ Q (.str (i ++ j)) H
theorem rv_leStr {i j : Str} : RV rLeStr (.str i) (.str j) H (.bl (!decide (j.cps.toList < i.cps.toList))) := fun H1 _ _ q => ⟨i, j, rfl, rfl, q H1 (Ex.refl H1)⟩
theorem rv_notInS {c : Nat} {z : Str} : RV rNotInS' (.str ⟨#[c]⟩) (.str z) H (.bl (!decide (c ∈ z.cps.toList))) := fun H1 _ _ q => ⟨c, z, rfl, rfl, q H1 (Ex.refl H1)⟩
theorem rv_addStr {i j : Str} (h : i.length + j.length ≤ 100000) : RV rAddStr (.str i) (.str j) H (.str (i ++ j)) := fun H1 _ _ q => ⟨i, j, rfl, rfl, sz_of h, q H1 (Ex.refl H1)⟩
theorem rv_isB {a b : Bool} : RV rIsB (.bl a) (.bl b) H (.bl (decide (a = b))) := fun H1 _ _ q => ⟨a, b, rfl, rfl, q H1 (Ex.refl H1)⟩
theorem rv_notB {a b : Bool} : RV rNotB (.bl a) (.bl b) H (.bl (!decide (a = b))) := fun H1 _ _ q => ⟨a, b, rfl, rfl, q H1 (Ex.refl H1)⟩
theorem et_yes : EvT tYes σ H true := fun H1 _ _ q => q H1 (Ex.refl H1)
/-- sep.join(xs) -/
def rJoin (K : PySem.W.Frag) : V → List V → Hp → VK → Prop := fun x xs H Q => ∃ a p, ∃ ys : List Str, x = .str a ∧ xs = [.ref p] ∧ (SqL K H p (ys.map V.str) ∨ SqT K H p (ys.map V.str)) ∧
      (ys.map (·.length)).sum + ys.length * a.length ≤ 16777216 ∧ Q (.str (Txt.join a ys)) H
theorem x_join {cs : List Nat} (h1 : Ev to σ H (.str (Str.ofString ""))) (h2 : EvX te σ H (Ls K ((cs.map sg).map V.str))) (hl : cs.length ≤ 100000) : Ev (tM1 (rJoin K) to te) σ H (.str (ofL cs)) := fun H1 e Q q =>
  h1 H1 e _ fun H2 e2 => ⟨⟨_, rfl⟩, h2 H2 (e.trans e2) _ fun v H3 e3 ⟨p, hv, hp⟩ => ⟨_, p, cs.map sg, rfl, by rw [hv], .inl hp, by
    have l0 : (Str.ofString "").length = 0 := rfl
    rw [sg_len, l0]
    omega, by
    rw [join_sg]
    exact q H3 (e2.trans e3)⟩⟩
/-- a walk over a text's signs -/
theorem q_forStr {D : Ends} {tu tz : TS} {z : Str} {j : Nat} (h : Ev te σ H (.str z)) (Pv : Nat → L2.St → Hp → Prop) (h0 : ∀ H1, Ex H H1 → Pv 0 σ H1)
    (hs : ∀ i c σ' H', z.cps.toList[i]? = some c → Pv i σ' H' → tu { D with nx := Pv (i + 1), ct := Pv (i + 1), bk := tz D } (σ'.set j (some (.str ⟨#[c]⟩))) H') (hd : ∀ σ' H', Pv z.cps.toList.length σ' H' → tz D σ' H') :
    tSeq (tFor (iStr te) (gName j) tu) tz D σ H := h H (Ex.refl H) _ fun H1 e => ⟨z, rfl, for_it (D := { D with nx := tz D }) (walk_str (z := z)) Pv (h0 H1 e) (fun _ _ _ _ _ => trivial) (fun i x σ' H' H'' hi p y => by
      obtain ⟨rfl, c, hc, rfl⟩ := y
      exact hs i c σ' _ (by rw [← hc]; simp) p) (fun σ' H' p => hd σ' H' (by simpa using p))⟩
/-- [e for c in s] -/
theorem el_lcS {z : Str} {tl : TE} {j : Nat} {vs : List Nat} (v : Nat → V) (h : Ev tl σ H (.str z)) (hz : z.cps.toList.length ≤ 40000) (hw : ∀ x, wipe ((wipe σ vs).set j (some x)) vs = wipe σ vs)
    (he : ∀ (i : Nat) (c : Nat) H1, Ex H H1 → z.cps.toList[i]? = some c → Ev te ((wipe σ vs).set j (some (.str ⟨#[c]⟩))) H1 (v c)) :
    EvL (tLc (iStr tl) (gName j) tYes te vs) σ H (z.cps.toList.map v) := fun H0 e Q q => h H0 e _ fun H1 e1 => ⟨z, rfl, fun Dl hD =>
  lc_it (walk_str (z := z)) (Cw H1 (fun _ => true) (fun i => v (z.cps.toList[i]?.getD 0)) Dl) ⟨hD, Ex.new hD, upd_same⟩ (fun _ _ _ _ => trivial) (fun i x H' H'' hi p y => by
      obtain ⟨rfl, c, hc, rfl⟩ := y
      have hc' : z.cps.toList[i]? = some c := by rw [← hc]; simp
      have hi' : i < z.cps.toList.length := by simpa using hi
      exact ⟨hw _, cw_turn p (by omega) et_yes (fun _ => by
        have := he i c H1 (e.trans e1) hc'
        rw [hc']
        exact this)⟩) (fun H' p => by
      refine q Dl H' (fresh_back e1 p.1) (e1.trans p.2.1) ?_
      rw [p.2.2]
      congr 2
      unfold given
      rw [List.filter_eq_self.mpr (fun _ _ => rfl)]
      refine List.ext_getElem? fun i => ?_
      rw [List.getElem?_map, List.getElem?_map]
      by_cases hi : i < z.cps.size
      · rw [List.getElem?_range hi]
        have hi' : i < z.cps.toList.length := by simpa using hi
        rw [List.getElem?_eq_getElem hi']
        simp [hi]
      · rw [List.getElem?_eq_none (by simp; omega), List.getElem?_eq_none (by simp; omega)]
        rfl)⟩
theorem given_all (n : Nat) (v : Nat → V) : given n (fun _ => true) v = (List.range n).map v := by
  unfold given
  rw [List.filter_eq_self.mpr (fun _ _ => rfl)]
end
local macro_rules | `(tactic| walk_at "len") => `(tactic| first | assumption | exact Nat.le_of_ble_eq_true rfl | omega | decide +kernel)
local macro_rules | `(tactic| walk_at "rv") => `(tactic| first | with_reducible exact rv_isB | with_reducible exact rv_notB | exact rv_leStr | exact rv_notInS | (apply rv_addStr; walk_at "len"))
local macro_rules | `(tactic| walk_at "rc") => `(tactic| (apply rc_lenStr; walk_at "len"))
local macro_rules | `(tactic| walk_at "xc") => `(tactic| ((with_reducible apply ev_chain); (focus (walk_at "ev")); (focus (walk_at "ev")); (focus (walk_at "rv")); (focus (intro _; walk_at "ev")); (intro _; walk_at "rv")))

section
variable {K : PySem.W.Frag} {σ : L2.St} {H H' : Hp} {ta tb tc te tl' to : TE} {x y z w v : V} {r r' : R2}
theorem x_all {bs : List Bool} (h : EvL te σ H (bs.map V.bl)) : Ev (tCB (rAll K) (tCons te tNil)) σ H (.bl (bs.all id)) := fun H1 e Q q =>
  h H1 e _ fun p H2 _ e2 h2 => ⟨p, bs, rfl, sq_of h2, q H2 e2⟩
theorem tyof_mono {t : Value} (e : Ex H H') (h : TyOf K H x t) : TyOf K H' x t := by
  cases h with
  | non => exact .non
  | bl b => exact .bl b
  | int i => exact .int i
  | str s => exact .str s
  | flt b => exact .flt b
  | lst h => exact .lst (e _ _ h)
  | frz h => exact .frz (e _ _ h)
  | tup h => exact .tup (e _ _ h)
  | dK h => exact .dK (e _ _ h)
  | dT h => exact .dT (e _ _ h)
  | ins h a b c d f => exact .ins (e _ _ h) a b c d f
theorem tyx_mono {t : Value} (e : Ex H H') (h : TyX K H x t) : TyX K H' x t := by
  cases h with
  | base h => exact .base (tyof_mono e h)
  | byt b => exact .byt b
  | set h => exact .set (e _ _ h)
  | kList h c => exact .kList h c
  | kTuple h c => exact .kTuple h c
  | kDict h c => exact .kDict h c
  | fTuple h => exact .fTuple (e _ _ h)
  | fDict h => exact .fDict (e _ _ h)
/-- all of as many values keep P -/
def AllP (P : VP) (n : Nat) : List V → Hp → Prop := fun vs H => vs.length = n ∧ ∀ v ∈ vs, P v H
theorem AllP.mono {P : VP} [Mono P] {n : Nat} {vs : List V} (e : Ex H H') (h : AllP P n vs H) : AllP P n vs H' := ⟨h.1, fun v hv => Mono.mono e (h.2 v hv)⟩
theorem axA_nil {P : VP} : EvXA tNil σ H (AllP P 0) := fun H1 _ Q q => q [] H1 (Ex.refl H1) ⟨rfl, fun _ h => by cases h⟩
theorem axA_cons {P : VP} [Mono P] {n : Nat} {tr : TA} (h : EvX te σ H P) (hr : EvXA tr σ H (AllP P n)) : EvXA (tCons te tr) σ H (AllP P (n + 1)) := fun H1 e Q q =>
  h H1 e _ fun v H2 e2 hv => hr H2 (e.trans e2) _ fun r H3 e3 hr' => q _ H3 (e2.trans e3) ⟨by rw [List.length_cons, hr'.1], fun u hu => by
    rcases List.mem_cons.mp hu with rfl | hu
    · exact Mono.mono e3 hv
    · exact hr'.2 u hu⟩
theorem x_lstA {P : VP} [Mono P] {n : Nat} {ta : TA} (h : EvXA ta σ H (AllP P n)) (hn : n ≤ 100000) : EvX (tLst ta) σ H (fun v H2 => ∃ p vs, v = .ref p ∧ H p = none ∧ H2 p = some (.lst vs) ∧ AllP P n vs H2) := fun H1 e Q q =>
  h H1 e _ fun vs H2 e2 hv => ⟨sz_of (by rw [hv.1]; exact hn), fun p hp => q _ _ (e2.trans (Ex.new hp)) ⟨p, vs, rfl, fresh_back e (fresh_back e2 hp), upd_same, hv.mono (Ex.new hp)⟩⟩
/-- {k: v}, one pair -/
theorem x_disp1 {tk tv : TE} {s : Str} {v : V} (hk : Ev tk σ H (.str s)) (hv : Ev tv σ H v) : EvX (tDisp [(tk, tv)]) σ H (Nw H (.dK [(.inr s, v)])) := fun H1 e Q q => fun p hp =>
  hk _ (e.trans (Ex.new hp)) _ fun H2 e2 => hv H2 ((e.trans (Ex.new hp)).trans e2) _ fun H3 e3 => ⟨e3 _ _ (e2 _ _ upd_same), [(.inr s, v)], rfl, Nat.le_of_ble_eq_true rfl, q _ _ (Ex.mut (((Ex.new hp).trans e2).trans e3) hp) ⟨p, rfl, fresh_back e hp, upd_same⟩⟩
end

def top (i : Nat) : Stmt := PySem.Challenge.pw_gossipcount_k04_pages_or_not.main.body.getD i (.Pass ⟨0, 0, 0, 0⟩)
abbrev s_is_name : Stmt := top 2
theorem sc_is_name : FnScope ["thing", "sign"] ["thing"] (defScope s_is_name) := ⟨rfl, rfl, rfl, by decide +kernel, rfl, by decide +kernel, by decide +kernel⟩
abbrev s_is_whole : Stmt := top 3
theorem sc_is_whole : FnScope ["thing"] ["thing"] (defScope s_is_whole) := ⟨rfl, rfl, rfl, by decide +kernel, rfl, by decide +kernel, by decide +kernel⟩
abbrev s_is_share : Stmt := top 7
theorem sc_is_share : FnScope ["thing", "number"] ["thing"] (defScope s_is_share) := ⟨rfl, rfl, rfl, by decide +kernel, rfl, by decide +kernel, by decide +kernel⟩
abbrev s_is_page : Stmt := top 10
theorem sc_is_page : FnScope ["thing", "name", "share"] ["thing"] (defScope s_is_page) := ⟨rfl, rfl, rfl, by decide +kernel, rfl, by decide +kernel, by decide +kernel⟩
abbrev s_is_entry : Stmt := top 11
theorem sc_is_entry : FnScope ["name", "share"] ["name", "share"] (defScope s_is_entry) := ⟨rfl, rfl, rfl, by decide +kernel, rfl, by decide +kernel, by decide +kernel⟩
abbrev s_law_cell_at : Stmt := top 13
theorem sc_law_cell_at : FnScope ["_law_script", "_law_k"] ["_law_script", "_law_k"] (defScope s_law_cell_at) := ⟨rfl, rfl, rfl, by decide +kernel, rfl, by decide +kernel, by decide +kernel⟩
abbrev s_law_number_by : Stmt := top 14
theorem sc_law_number_by : FnScope ["_law_cell", "_law_kind"] ["_law_cell"] (defScope s_law_number_by) := ⟨rfl, rfl, rfl, by decide +kernel, rfl, by decide +kernel, by decide +kernel⟩
abbrev s_law_name_by : Stmt := top 15
theorem sc_law_name_by : FnScope ["_law_cell", "_law_signs", "_law_step", "_law_word", "_law_k"] ["_law_cell"] (defScope s_law_name_by) := ⟨rfl, rfl, rfl, by decide +kernel, rfl, by decide +kernel, by decide +kernel⟩
abbrev s_law_mixed : Stmt := top 16
theorem sc_law_mixed : FnScope ["_law_cell", "_law_k"] ["_law_cell", "_law_k"] (defScope s_law_mixed) := ⟨rfl, rfl, rfl, by decide +kernel, rfl, by decide +kernel, by decide +kernel⟩
abbrev s_law_truth : Stmt := top 17
theorem sc_law_truth : FnScope ["_law_found", "_law_due"] ["_law_found", "_law_due"] (defScope s_law_truth) := ⟨rfl, rfl, rfl, by decide +kernel, rfl, by decide +kernel, by decide +kernel⟩
abbrev s_law_rows_by : Stmt := top 18
theorem sc_law_rows_by : FnScope ["_law_names", "_law_shares", "_law_size", "_law_rows", "_law_k", "_law_share", "_law_name", "_law_signs"] ["_law_names", "_law_shares", "_law_size"] (defScope s_law_rows_by) := ⟨rfl, rfl, rfl, by decide +kernel, rfl, by decide +kernel, by decide +kernel⟩
abbrev s_law_odd_name : Stmt := top 19
theorem sc_law_odd_name : FnScope ["_law_cell", "_law_kind"] ["_law_cell"] (defScope s_law_odd_name) := ⟨rfl, rfl, rfl, by decide +kernel, rfl, by decide +kernel, by decide +kernel⟩
abbrev s_law_odd_share : Stmt := top 20
theorem sc_law_odd_share : FnScope ["_law_cell", "_law_far", "_law_shares"] ["_law_cell"] (defScope s_law_odd_share) := ⟨rfl, rfl, rfl, by decide +kernel, rfl, by decide +kernel, by decide +kernel⟩
abbrev s_law : Stmt := top 21
theorem sc_law : FnScope ["_law_script", "_law_size", "_law_rows", "_law_cell", "_law_good", "_law_at", "_law_page", "_law_row", "_law_handed"] ["_law_script"] (defScope s_law) := ⟨rfl, rfl, rfl, by decide +kernel, rfl, by decide +kernel, by decide +kernel⟩
structure Txt (K : PySem.W.Frag) (mg : Str → Option Value) where
  a_is_name : Addr
  d_is_name : FuncData
  h_is_name : Has K mg "is_name" s_is_name ["thing"] a_is_name d_is_name
  a_is_whole : Addr
  d_is_whole : FuncData
  h_is_whole : Has K mg "is_whole" s_is_whole ["thing"] a_is_whole d_is_whole
  a_is_share : Addr
  d_is_share : FuncData
  h_is_share : Has K mg "is_share" s_is_share ["thing"] a_is_share d_is_share
  a_is_page : Addr
  d_is_page : FuncData
  h_is_page : Has K mg "is_page" s_is_page ["thing"] a_is_page d_is_page
  a_is_entry : Addr
  d_is_entry : FuncData
  h_is_entry : Has K mg "_is_entry" s_is_entry ["name", "share"] a_is_entry d_is_entry
  a_law_cell_at : Addr
  d_law_cell_at : FuncData
  h_law_cell_at : Has K mg "_law_cell_at" s_law_cell_at ["_law_script", "_law_k"] a_law_cell_at d_law_cell_at
  a_law_number_by : Addr
  d_law_number_by : FuncData
  h_law_number_by : Has K mg "_law_number_by" s_law_number_by ["_law_cell"] a_law_number_by d_law_number_by
  a_law_name_by : Addr
  d_law_name_by : FuncData
  h_law_name_by : Has K mg "_law_name_by" s_law_name_by ["_law_cell"] a_law_name_by d_law_name_by
  a_law_mixed : Addr
  d_law_mixed : FuncData
  h_law_mixed : Has K mg "_law_mixed" s_law_mixed ["_law_cell", "_law_k"] a_law_mixed d_law_mixed
  a_law_truth : Addr
  d_law_truth : FuncData
  h_law_truth : Has K mg "_law_truth" s_law_truth ["_law_found", "_law_due"] a_law_truth d_law_truth
  a_law_rows_by : Addr
  d_law_rows_by : FuncData
  h_law_rows_by : Has K mg "_law_rows_by" s_law_rows_by ["_law_names", "_law_shares", "_law_size"] a_law_rows_by d_law_rows_by
  a_law_odd_name : Addr
  d_law_odd_name : FuncData
  h_law_odd_name : Has K mg "_law_odd_name" s_law_odd_name ["_law_cell"] a_law_odd_name d_law_odd_name
  a_law_odd_share : Addr
  d_law_odd_share : FuncData
  h_law_odd_share : Has K mg "_law_odd_share" s_law_odd_share ["_law_cell"] a_law_odd_share d_law_odd_share
  a_law : Addr
  d_law : FuncData
  h_law : Has K mg "law" s_law ["_law_script"] a_law d_law
  n_all : mg "all" = none
  n_bool : mg "bool" = none
  n_dict : mg "dict" = none
  n_int : mg "int" = none
  n_isinstance : mg "isinstance" = none
  n_len : mg "len" = none
  n_range : mg "range" = none
  n_str : mg "str" = none
  n_tuple : mg "tuple" = none
  v_LONGEST_NAME : Value
  g_LONGEST_NAME : mg "LONGEST_NAME" = some v_LONGEST_NAME ∧ RelV (.int (8)) v_LONGEST_NAME
  p_NOTHING : Addr
  g_NOTHING : mg "NOTHING" = some (.ref p_NOTHING) ∧ RelV (.ref p_NOTHING) (.ref p_NOTHING)
  t_NOTHING : ∀ H, SqT K H p_NOTHING [.int 0, .int 0]
  v_BEYOND : Value
  g_BEYOND : mg "BEYOND" = some v_BEYOND ∧ RelV (.int (10 ^ 60)) v_BEYOND
  v_MOST_NAMES : Value
  g_MOST_NAMES : mg "MOST_NAMES" = some v_MOST_NAMES ∧ RelV (.int (200)) v_MOST_NAMES
def spLaw (K : PySem.W.Frag) : Sp := fun vs H Q _ => ∃ (a : Addr) (ns : List Int), vs = [.ref a] ∧ SqL K H a (ns.map V.int) ∧ ns.length ≤ 63 ∧ ∀ H', Q (.bl true) H'
theorem pg_tupK {X : Cx} {K : PySem.W.Frag} {es : List Expr} {pos : Pos} {k : Nat} {t : TGs} {n : Nat} (hK : X.K = K) (hc : X.calm = true) (h : PGs X es t) (hn : (assignEach es X.env).length = n) (hst : (assignEach es X.env).findIdx? (·.1) = none) : PG X (.Tuple es k pos) (gTup K n t) := by
  subst hK
  exact pg_tup hc h hn hst
section
variable {K : PySem.W.Frag} {σ : L2.St} {H H' : Hp} {te : TE}
theorem map_range_get {α β : Type} (xs : List α) (d : α) (v : α → β) : (List.range xs.length).map (fun i => v (xs[i]?.getD d)) = xs.map v := by
  refine List.ext_getElem? fun i => ?_
  rw [List.getElem?_map, List.getElem?_map]
  by_cases hi : i < xs.length
  · rw [List.getElem?_range hi, List.getElem?_eq_getElem hi]
    simp [hi]
  · rw [List.getElem?_eq_none (by simp; omega), List.getElem?_eq_none (by omega)]
    rfl
/-- [e for x in t], t a tuple -/
theorem el_lcT {a : Addr} {xs : List V} {tl : TE} {j : Nat} {vs : List Nat} (v : V → V) (h : Ev tl σ H (.ref a)) (hx : SqT K H a xs) (hz : xs.length ≤ 40000) (hw : ∀ x, wipe ((wipe σ vs).set j (some x)) vs = wipe σ vs)
    (he : ∀ (x : V) H1, Ex H H1 → x ∈ xs → Ev te ((wipe σ vs).set j (some x)) H1 (v x)) :
    EvL (tLc (iTup K tl) (gName j) tYes te vs) σ H (xs.map v) := fun H0 e Q q => h H0 e _ fun H1 e1 => ⟨a, rfl, ⟨xs, ex_t (e.trans e1) hx⟩, fun Dl hD =>
  lc_it (walk_tup (K := K) (a := a) (xs := xs)) (Cw H1 (fun _ => true) (fun i => v (xs[i]?.getD .non)) Dl) ⟨hD, Ex.new hD, upd_same⟩ (fun i H' hi p => ex_t ((e.trans e1).trans p.2.1) hx) (fun i x H' H'' hi p y => by
      obtain ⟨rfl, hc⟩ := y
      exact ⟨hw _, cw_turn p (by omega) et_yes (fun _ => by
        have := he x H1 (e.trans e1) (List.mem_of_getElem? hc)
        rw [hc]
        exact this)⟩) (fun H' p => by
      refine q Dl H' (fresh_back e1 p.1) (e1.trans p.2.1) ?_
      rw [p.2.2, given_all, map_range_get])⟩
end
/-! ### a dict that is walked: locked, then as before -/
section
variable {K : PySem.W.Frag} {H H' : Hp} {d : Addr} {od : Obj} {kvs : List (Key × V)}
theorem lock_t {q : Addr} {xs : List V} (hd : H d = some (.dK kvs)) (h : SqT K H q xs) : SqT K (upd H d (.frz od (.dK kvs))) q xs := by
  rcases h with (h | ⟨o, h⟩) | h
  · exact .inl (.inl (by rw [upd_ne (ne_of h hd (by intro z; cases z))]; exact h))
  · exact .inl (.inr ⟨o, by rw [upd_ne (ne_of h hd (by intro z; cases z))]; exact h⟩)
  · exact .inr h
theorem lock_ty {x : V} {t : Value} (hd : H d = some (.dK kvs)) (h : TyX K H x t) : TyX K (upd H d (.frz od (.dK kvs))) x t := by
  cases h with
  | base h =>
    cases h with
    | non => exact .base .non
    | bl b => exact .base (.bl b)
    | int i => exact .base (.int i)
    | str s => exact .base (.str s)
    | flt b => exact .base (.flt b)
    | lst h => exact .base (.lst (by rw [upd_ne (ne_of h hd (by intro z; cases z))]; exact h))
    | frz h => exact .base (.frz (by rw [upd_ne (ne_of h hd (by intro z; cases z))]; exact h))
    | tup h => exact .base (.tup (by rw [upd_ne (ne_of h hd (by intro z; cases z))]; exact h))
    | @dK a kvs' h =>
      by_cases e : a = d
      · subst e
        exact .fDict upd_same
      · exact .base (.dK (by rw [upd_ne e]; exact h))
    | dT h => exact .base (.dT (by rw [upd_ne (ne_of h hd (by intro z; cases z))]; exact h))
    | ins h a b c d f => exact .base (.ins (by rw [upd_ne (ne_of h hd (by intro z; cases z))]; exact h) a b c d f)
  | byt b => exact .byt b
  | set h => exact .set (by rw [upd_ne (ne_of h hd (by intro z; cases z))]; exact h)
  | kList h c => exact .kList h c
  | kTuple h c => exact .kTuple h c
  | kDict h c => exact .kDict h c
  | fTuple h => exact .fTuple (by rw [upd_ne (ne_of h hd (by intro z; cases z))]; exact h)
  | fDict h => exact .fDict (by rw [upd_ne (ne_of h hd (by intro z; cases z))]; exact h)
theorem unlock {u : HO} (hd : H d = some u) (e : Ex (upd H d (.frz od u)) H') : Ex H (upd H' d u) := fun a o h => by
  by_cases hq : a = d
  · subst hq
    rw [hd] at h
    rw [upd_same]
    exact h
  · rw [upd_ne hq]
    exact e a o (by rw [upd_ne hq]; exact h)
theorem lock_free {u : HO} {a : Addr} (hd : H d = some u) (e : Ex (upd H d (.frz od u)) H') (h : H' a = none) : H a = none := by
  have h1 := fresh_back e h
  by_cases hq : a = d
  · subst hq
    rw [upd_same] at h1
    cases h1
  · rw [upd_ne hq] at h1
    exact h1
end
section
variable {K : PySem.W.Frag} {σ : L2.St} {H H' : Hp} {te td : TE}
theorem ex_upd2 {d : Addr} {o : HO} (e : Ex H H') : Ex (upd H d o) (upd H' d o) := fun a u h => by
  by_cases hq : a = d
  · subst hq
    rw [upd_same] at h ⊢
    exact h
  · rw [upd_ne hq] at h ⊢
    exact e a u h
/-- [e for k, x in d.items()] -/
theorem el_lockItems {d : Addr} {kvs : List (Key × V)} {i j n : Nat} {vs : List Nat} (vals : List V) (hv : vals.length = kvs.length) (hd : H d = some (.dK kvs)) (h : ∀ H', Ev td σ H' (.ref d)) (hn : n = 2) (hz : kvs.length ≤ 30000)
    (hw : ∀ x y, wipe (((wipe σ vs).set i (some x)).set j (some y)) vs = wipe σ vs) (he : ∀ (m : Nat) (kv : Key × V) (u : V), kvs[m]? = some kv → vals[m]? = some u → ∀ od H1, Ex (upd H d (.frz od (.dK kvs))) H1 → Ev te (((wipe σ vs).set i (some (kV kv.1))).set j (some kv.2)) H1 u) :
    EvL (tLockE (tLc (iItems td) (gTup K n (gCons (gName i) (gCons (gName j) gNil))) tYes te vs)) σ H vals := fun H0 e Q q => by
  refine ⟨d, .dK kvs, e _ _ hd, trivial, fun od => ?_⟩
  refine h _ _ (Ex.refl _) _ fun H2 e2 => ?_
  have hd2 : H2 d = some (.frz od (.dK kvs)) := e2 d _ upd_same
  have e02 : Ex (upd H d (.frz od (.dK kvs))) H2 := (ex_upd2 e).trans e2
  refine ⟨d, od, kvs, rfl, hd2, fun Dl hD => ?_⟩
  refine lc_it (walk_items (d := d) (o := od) (kvs := kvs)) (Cw H2 (fun _ => true) (fun i => vals[i]?.getD .non) Dl) ⟨hD, Ex.new hD, upd_same⟩ (fun _ H' _ p => p.2.1 d _ hd2) (fun m x H' H'' hi p y => ?_) (fun H' p => ?_)
  · obtain ⟨T, a, b, rfl, hT, rfl, ha, hb⟩ := y
    have p' : Cw H2 (fun _ => true) (fun i => vals[i]?.getD .non) Dl m (upd H' T (.tup [a, b])) := ⟨p.1, p.2.1.trans (Ex.new hT), by rw [upd_ne (ne_of_none p.2.2 hT)]; exact p.2.2⟩
    have hkv : kvs[m]? = some kvs[m] := List.getElem?_eq_getElem hi
    have hi' : m < vals.length := by omega
    have hu : vals[m]? = some vals[m] := List.getElem?_eq_getElem hi'
    have ha' : a = kV kvs[m].1 := by
      have ha : Option.map (fun kv => kV kv.1) kvs[m]? = some a := ha
      rw [hkv] at ha
      exact (Option.some.inj ha).symm
    have hb' : b = kvs[m].2 := by
      have hb : Option.map Prod.snd kvs[m]? = some b := hb
      rw [hkv] at hb
      exact (Option.some.inj hb).symm
    refine ⟨T, [a, b], rfl, .inl (.inl upd_same), by rw [hn]; rfl, a, [b], rfl, b, [], rfl, rfl, hw a b, ?_⟩
    refine cw_turn p' (by omega) et_yes (fun _ => ?_)
    rw [hu, ha', hb']
    exact he m kvs[m] vals[m] hkv hu od H2 e02
  · have hne : Dl ≠ d := fun z => by
      rw [z, hd2] at hD
      cases hD
    refine ⟨p.2.1 d _ hd2, q Dl _ (lock_free (e _ _ hd) e2 hD) (unlock (e _ _ hd) (e2.trans p.2.1)) ?_⟩
    rw [upd_ne hne, p.2.2, given_all, ← hv, map_range_get vals .non (fun x => x), List.map_id']
end

/-! ### names and amounts -/
def lowC (c : Nat) : Bool := decide (97 ≤ c) && decide (c ≤ 122)
def nameOk (w : Str) : Bool := (decide ((1 : Int) ≤ w.length) && decide ((w.length : Int) ≤ 8)) && w.cps.toList.all lowC
theorem low_lt (c : Nat) : (!decide ((Str.ofString "a").cps.toList > [c])) = decide (97 ≤ c) := by
  have e : (Str.ofString "a").cps.toList = [97] := by decide +kernel
  rw [e]
  by_cases h : 97 ≤ c
  · rw [decide_eq_true h]
    have : ¬ ([c] < [97]) := by
      intro z
      rcases List.cons_lt_cons_iff.mp z with z | z
      · omega
      · exact absurd z.2 (by simp)
    simpa using this
  · rw [decide_eq_false h]
    have : [c] < [97] := List.cons_lt_cons_iff.mpr (Or.inl (by omega))
    simpa using this
theorem low_gt (c : Nat) : (!decide ((Str.ofString "z").cps.toList < [c])) = decide (c ≤ 122) := by
  have e : (Str.ofString "z").cps.toList = [122] := by decide +kernel
  rw [e]
  by_cases h : c ≤ 122
  · rw [decide_eq_true h]
    have : ¬ ([122] < [c]) := by
      intro z
      rcases List.cons_lt_cons_iff.mp z with z | z
      · omega
      · exact absurd z.2 (by simp)
    simpa using this
  · rw [decide_eq_false h]
    have : [122] < [c] := List.cons_lt_cons_iff.mpr (Or.inl (by omega))
    simpa using this
section
variable {P : Program} {w : World} {K : PySem.W.Frag} {mg : Str → Option Value} {base : Heap}
abbrev argsN : Str ⊕ (V × String) → List V := fun x => match x with | .inl w => [.str w] | .inr (v, _) => [v]
abbrev preN (K : PySem.W.Frag) : Str ⊕ (V × String) → Hp → Prop := fun x H => match x with | .inl w => w.cps.toList.length ≤ 30000 | .inr (v, t) => TyX K H v (.type t) ∧ kitB t "str" = some false
abbrev postN : Str ⊕ (V × String) → Hp → VP := fun x _ => match x with | .inl w => Is (.bl (nameOk w)) | .inr _ => Is (.bl false)
abbrev spName (K : PySem.W.Frag) : Sp := SpF argsN (preN K) postN
theorem sv_name {s : Str} {H : Hp} (h : s.cps.toList.length ≤ 30000) : SpV (spName K) [.str s] H (.bl (nameOk s)) := sv_of (sx_of (α := Str ⊕ (V × String)) (args := argsN) (.inl s) (fun _ _ => h) fun _ _ _ _ _ h => h)
theorem sv_noName {v : V} {t : String} {H : Hp} (h : TyX K H v (.type t)) (ht : kitB t "str" = some false) : SpV (spName K) [v] H (.bl false) := sv_of (sx_of (α := Str ⊕ (V × String)) (args := argsN) (.inr (v, t)) (fun _ e => ⟨tyx_mono e h, ht⟩) fun _ _ _ _ _ h => h)
theorem ok_is_name (T : Txt K mg) : FnOk P w K mg base CX0 1 T.a_is_name T.d_is_name ["thing"] (spName K) := by
  refine T.h_is_name.F.ok sc_is_name (fun vs H Q E h => ?_) (fun cdv A outer s H vs Q E hr h => ?_)
  · obtain ⟨x, rfl, _⟩ := h
    rcases x with x | ⟨x, t⟩ <;> rfl
  · obtain ⟨x, rfl, hp, k⟩ := h
    refine ⟨_, (pss_cons (ps_if (PW.pt (pw_or (pt_not (pt_val (pe_callB call_isi (by rfl) T.n_isinstance (by decide +kernel) (pa_cons (pv 0) (pa_cons (pe_bltn (v := .ty "str") (u := .type "str") (by rfl) T.n_str (by decide +kernel) rfl) pa_nil))))) (pw_or1 (pt_not (pt_chain op_le op_le pe_int (pe_callB call_len_str (by rfl) T.n_len PySem.boot_len (pa_cons (pv 0) pa_nil)) (pe_glob rfl T.g_LONGEST_NAME.1 T.g_LONGEST_NAME.2)))))) (pss_one (ps_ret pe_bl)) pss_nil) (pss_one (ps_ret (pe_callB (cr_all rfl) (by rfl) T.n_all (by decide +kernel) (pa_cons (pe_lc (own := [("sign", 1)]) (by rfl) sc_is_name.nd (pi_str (pv 0)) (blkOk_by (own := [("sign", 1)]) (N := ["thing", "sign"]) (sc := defScope s_is_name) (by decide +kernel)) (fun _ _ _ _ _ => (pg_name (i := 1) sc_is_name.nd rfl (by first | exact Or.inl rfl | exact Or.inr rfl))) (fun _ _ _ _ _ => pts_nil) (fun _ _ _ _ _ => (pe_chain op_le_str op_le_str pe_str (pv 1) pe_str))) pa_nil))))), ?_⟩
    rcases x with x | ⟨v, t⟩
    · replace hp : x.cps.toList.length ≤ 30000 := hp
      have hp2 : x.length ≤ 100000 := by
        have : x.length = x.cps.toList.length := by show x.cps.size = _; simp
        omega
      refine q_when (by walk_at "ev") (fun hb H1 e1 => ?_) (fun hb H1 e1 => ?_)
      · refine s_ret ev_c fun H2 e2 => k _ _ (by walk_at "ex") ?_
        show _ = _
        unfold nameOk
        simp only [Bool.not_true, Bool.false_or, Bool.not_eq_true'] at hb
        rw [hb]
        rfl
      · refine s_ret (x_all (bs := x.cps.toList.map fun c => (!decide ((Str.ofString "a").cps.toList > [c])) && !decide ((Str.ofString "z").cps.toList < [c])) ?_) fun H2 e2 => k _ _ (by walk_at "ex") ?_
        · rw [List.map_map]
          refine el_lcS _ (ev_var rfl) (by omega) (fun _ => rfl) (fun i c H2 e2 hc => ?_)
          exact ev_chain ev_c (ev_var rfl) rv_leStr (fun _ => ev_c) (fun _ => rv_leStr)
        · show _ = _
          unfold nameOk
          simp only [Bool.not_true, Bool.false_or, Bool.not_eq_false'] at hb
          rw [hb, Bool.true_and, List.all_map]
          congr 2
          funext c
          show _ = lowC c
          unfold lowC
          rw [← low_lt, ← low_gt]
          rfl
    · replace hp : TyX K H v (.type t) ∧ kitB t "str" = some false := hp
      refine q_when (b := true) ?_ (fun hb H1 e1 => ?_) (fun hb H1 e1 => by cases hb)
      · exact et_or (a := true) (b := true) (et_not (a := false) (et_B (ev_cb (ea_cons (ev_var rfl) (ea_cons ev_c ea_nil)) (rc_isi (fun H1 e1 => tyx_mono e1 hp.1) hp.2)))) (fun h => by cases h)
      · exact s_ret ev_c fun H2 e2 => k _ _ (by walk_at "ex") rfl
end

section
variable {P : Program} {w : World} {K : PySem.W.Frag} {mg : Str → Option Value} {base : Heap}
abbrev argsI : Int ⊕ (V × String) → List V := fun x => match x with | .inl w => [.int w] | .inr (v, _) => [v]
abbrev preI (K : PySem.W.Frag) : Int ⊕ (V × String) → Hp → Prop := fun x H => match x with | .inl _ => True | .inr (v, t) => TyX K H v (.type t) ∧ (t = "bool" ∨ kitB t "int" = some false)
abbrev postI : Int ⊕ (V × String) → Hp → VP := fun x _ => match x with | .inl _ => Is (.bl true) | .inr _ => Is (.bl false)
abbrev postA : Int ⊕ (V × String) → Hp → VP := fun x _ => match x with | .inl n => Is (.bl (decide (1 ≤ n) && decide (n ≤ 1000000000))) | .inr _ => Is (.bl false)
abbrev spWholeX (K : PySem.W.Frag) : Sp := SpF argsI (preI K) postI
abbrev spAmount (K : PySem.W.Frag) : Sp := SpF argsI (preI K) postA
theorem sv_wholeX {n : Int} {H : Hp} : SpV (spWholeX K) [.int n] H (.bl true) := sv_of (sx_of (α := Int ⊕ (V × String)) (args := argsI) (.inl n) (fun _ _ => trivial) fun _ _ _ _ _ h => h)
theorem sv_noWhole {v : V} {t : String} {H : Hp} (h : TyX K H v (.type t)) (ht : t = "bool" ∨ kitB t "int" = some false) : SpV (spWholeX K) [v] H (.bl false) := sv_of (sx_of (α := Int ⊕ (V × String)) (args := argsI) (.inr (v, t)) (fun _ e => ⟨tyx_mono e h, ht⟩) fun _ _ _ _ _ h => h)
theorem sv_amount {n : Int} {H : Hp} : SpV (spAmount K) [.int n] H (.bl (decide (1 ≤ n) && decide (n ≤ 1000000000))) := sv_of (sx_of (α := Int ⊕ (V × String)) (args := argsI) (.inl n) (fun _ _ => trivial) fun _ _ _ _ _ h => h)
theorem sv_noAmount {v : V} {t : String} {H : Hp} (h : TyX K H v (.type t)) (ht : t = "bool" ∨ kitB t "int" = some false) : SpV (spAmount K) [v] H (.bl false) := sv_of (sx_of (α := Int ⊕ (V × String)) (args := argsI) (.inr (v, t)) (fun _ e => ⟨tyx_mono e h, ht⟩) fun _ _ _ _ _ h => h)
theorem ok_is_whole (T : Txt K mg) : FnOk P w K mg base CX0 1 T.a_is_whole T.d_is_whole ["thing"] (spWholeX K) := by
  refine T.h_is_whole.F.ok sc_is_whole (fun vs H Q E h => ?_) (fun cdv A outer s H vs Q E hr h => ?_)
  · obtain ⟨x, rfl, _⟩ := h
    rcases x with x | ⟨x, t⟩ <;> rfl
  · obtain ⟨x, rfl, hp, k⟩ := h
    refine ⟨_, (pss_one (ps_ret (pe_and (pe_callB call_isi (by rfl) T.n_isinstance (by decide +kernel) (pa_cons (pv 0) (pa_cons (pe_bltn (v := .ty "int") (u := .type "int") (by rfl) T.n_int (by decide +kernel) rfl) pa_nil))) (pe_one (pe_not (pe_callB call_isi (by rfl) T.n_isinstance (by decide +kernel) (pa_cons (pv 0) (pa_cons (pe_bltn (v := .ty "bool") (u := .type "bool") (by rfl) T.n_bool (by decide +kernel) rfl) pa_nil)))))))), ?_⟩
    rcases x with x | ⟨v, t⟩
    · have hp := hp
      refine s_ret (by walk_at "ev") fun H3 e3 => ?_
      exact k _ _ (by walk_at "ex") rfl
    · have hp := hp
      obtain ⟨hp, rfl | ht⟩ := hp
      · refine s_ret (v := .bl (true && !true)) (ev_andV (ev_cb (ea_cons (ev_var rfl) (ea_cons ev_c ea_nil)) (rc_isi (fun H1 e1 => tyx_mono e1 hp) (by decide +kernel))) fun _ => ev_notV (ev_cb (ea_cons (ev_var rfl) (ea_cons ev_c ea_nil)) (rc_isi (fun H1 e1 => tyx_mono e1 hp) (by decide +kernel)))) fun H3 e3 => ?_
        exact k _ _ (by walk_at "ex") rfl
      · refine s_ret (v := .bl (false && false)) (ev_andV (ev_cb (ea_cons (ev_var rfl) (ea_cons ev_c ea_nil)) (rc_isi (fun H1 e1 => tyx_mono e1 hp) ht)) (fun h => by cases h)) fun H3 e3 => ?_
        exact k _ _ (by walk_at "ex") rfl
end

def flat3 : V → Bool
  | .int _ => true | .bl _ => true | .str _ => true | .non => true
  | _ => false
def numOk : V → Bool
  | .int n => decide (0 ≤ n) && decide (n < 1000000000000000000000000000000000000000000000000000000000000)
  | _ => false
def shOk0 (xs : List V) : Bool := decide (xs.length = 2) && xs.all numOk
def intV : V → Bool
  | .int _ => true
  | _ => false
section
variable {P : Program} {w : World} {K : PySem.W.Frag} {mg : Str → Option Value} {base : Heap}
theorem sv_wholeV {v : V} {H : Hp} (h : flat3 v = true) : SpV (spWholeX K) [v] H (.bl (intV v)) := by
  cases v with
  | int n => exact sv_wholeX
  | bl b => exact sv_noWhole (t := "bool") (.base (.bl b)) (Or.inl rfl)
  | str s => exact sv_noWhole (t := "str") (.base (.str s)) (Or.inr (by decide +kernel))
  | non => exact sv_noWhole (t := "NoneType") (.base .non) (Or.inr (by decide +kernel))
  | _ => cases h
abbrev argsS : (Addr × List V) ⊕ (V × String) → List V := fun x => match x with | .inl (q, _) => [.ref q] | .inr (v, _) => [v]
abbrev preS (K : PySem.W.Frag) : (Addr × List V) ⊕ (V × String) → Hp → Prop := fun x H => match x with | .inl (q, xs) => SqT K H q xs ∧ xs.all flat3 = true ∧ xs.length ≤ 1000 | .inr (v, t) => TyX K H v (.type t) ∧ kitB t "tuple" = some false
abbrev postS : (Addr × List V) ⊕ (V × String) → Hp → VP := fun x _ => match x with | .inl (_, xs) => Is (.bl (shOk0 xs)) | .inr _ => Is (.bl false)
abbrev spIsShare (K : PySem.W.Frag) : Sp := SpF argsS (preS K) postS
theorem sv_isShare {q : Addr} {xs : List V} {H : Hp} (h : SqT K H q xs) (hf : xs.all flat3 = true) (hl : xs.length ≤ 1000) : SpV (spIsShare K) [.ref q] H (.bl (shOk0 xs)) := sv_of (sx_of (α := (Addr × List V) ⊕ (V × String)) (args := argsS) (.inl (q, xs)) (fun _ e => ⟨ex_t e h, hf, hl⟩) fun _ _ _ _ _ h => h)
theorem sv_noShare {v : V} {t : String} {H : Hp} (h : TyX K H v (.type t)) (ht : kitB t "tuple" = some false) : SpV (spIsShare K) [v] H (.bl false) := sv_of (sx_of (α := (Addr × List V) ⊕ (V × String)) (args := argsS) (.inr (v, t)) (fun _ e => ⟨tyx_mono e h, ht⟩) fun _ _ _ _ _ h => h)
theorem ok_is_share (T : Txt K mg) : FnOk P w K mg base CX0 2 T.a_is_share T.d_is_share ["thing"] (spIsShare K) := by
  refine T.h_is_share.F.ok sc_is_share (fun vs H Q E h => ?_) (fun cdv A outer s H vs Q E hr h => ?_)
  · obtain ⟨x, rfl, _⟩ := h
    rcases x with ⟨x, xs⟩ | ⟨x, t⟩ <;> rfl
  · obtain ⟨x, rfl, hp, k⟩ := h
    refine ⟨_, (pss_cons (ps_if (PW.pt (pw_or (pt_not (pt_val (pe_callB call_isi (by rfl) T.n_isinstance (by decide +kernel) (pa_cons (pv 0) (pa_cons (pe_bltn (v := .ty "tuple") (u := .type "tuple") (by rfl) T.n_tuple (by decide +kernel) rfl) pa_nil))))) (pw_or1 (pt_cmpR op_ne (pe_callB call_len_seq (by rfl) T.n_len PySem.boot_len (pa_cons (pv 0) pa_nil)) pe_int (nomark _))))) (pss_one (ps_ret pe_bl)) pss_nil) (pss_one (ps_ret (pe_callB (cr_all rfl) (by rfl) T.n_all (by decide +kernel) (pa_cons (pe_lc (own := [("number", 1)]) (by rfl) sc_is_share.nd (pi_tup (pv 0)) (blkOk_by (own := [("number", 1)]) (N := ["thing", "number"]) (sc := defScope s_is_share) (by decide +kernel)) (fun _ _ _ _ _ => (pg_name (i := 1) sc_is_share.nd rfl (by first | exact Or.inl rfl | exact Or.inr rfl))) (fun _ _ _ _ _ => pts_nil) (fun _ _ _ _ _ => (pe_and (pe_call (ok_is_whole T) (hr.mono (by decide)) rfl T.h_is_whole.m T.h_is_whole.F.kp T.h_is_whole.b .nil pass0 (pa_cons (pv 1) pa_nil)) (pe_one (pe_chain op_le op_lt pe_int (pv 1) (pe_glob rfl T.g_BEYOND.1 T.g_BEYOND.2)))))) pa_nil))))), ?_⟩
    rcases x with ⟨q, xs⟩ | ⟨v, t⟩
    · obtain ⟨hq, hf, hl⟩ := hp
      refine q_when (b := !true || !decide (V.int (xs.length : Int) = V.int 2)) (et_or (et_not (et_B (ev_cb (ea_cons (ev_var rfl) (ea_cons ev_c ea_nil)) (rc_isi (fun H1 e1 => tyx_tup (ex_t e1 hq)) (by decide +kernel))))) fun _ => et_test (ev_op (ev_cb (ea_cons (ev_var rfl) ea_nil) (rc_lenT hq)) ev_c (rv_ne rfl))) (fun hb H1 e1 => ?_) (fun hb H1 e1 => ?_)
      · refine s_ret ev_c fun H2 e2 => k _ _ (by walk_at "ex") ?_
        show _ = _
        have h2 : ¬ xs.length = 2 := by
          intro z
          rw [z] at hb
          exact absurd hb (by simp)
        unfold shOk0
        rw [decide_eq_false h2]
        rfl
      · have h2 : xs.length = 2 := by
          simp at hb
          omega
        refine s_ret (x_all (bs := xs.map numOk) ?_) fun H2 e2 => k _ _ (by walk_at "ex") ?_
        · rw [List.map_map]
          refine el_lcT _ (ev_var rfl) (ex_t e1 hq) (by omega) (fun _ => rfl) (fun x H2 e2 hx => ?_)
          have hfx : flat3 x = true := List.all_eq_true.mp hf x hx
          refine ev_is (v := .bl (intV x && numOk x)) (ev_andV (ev_call (ea_cons (ev_var rfl) ea_nil) (sv_wholeV hfx)) fun hi => ?_) ?_
          · cases x with
            | int n => exact ev_chain ev_c (ev_var rfl) rv_I0 (fun _ => ev_c) (fun _ => rv_I0)
            | _ => cases hi
          · cases x <;> rfl
        · show _ = _
          unfold shOk0
          rw [decide_eq_true h2, Bool.true_and, List.all_map]
          rfl
    · refine q_when (b := true) ?_ (fun hb H1 e1 => ?_) (fun hb H1 e1 => by cases hb)
      · exact et_or (a := true) (b := true) (et_not (a := false) (et_B (ev_cb (ea_cons (ev_var rfl) (ea_cons ev_c ea_nil)) (rc_isi (fun H1 e1 => tyx_mono e1 hp.1) hp.2)))) (fun h => by cases h)
      · exact s_ret ev_c fun H2 e2 => k _ _ (by walk_at "ex") rfl
end

def keyOk : Key → Bool
  | .inr w => nameOk w
  | .inl _ => false
def KeyLen : Key → Prop
  | .inr w => w.cps.toList.length ≤ 30000
  | .inl _ => True
theorem numOk_int {x : V} (h : numOk x = true) : ∃ n : Int, x = .int n := by
  cases x with
  | int n => exact ⟨n, rfl⟩
  | _ => cases h
/-- what stands as a share: whether it is one that a page may have -/
def ShAt (K : PySem.W.Frag) (H : Hp) (v : V) (b : Bool) : Prop :=
  (∃ q xs, v = .ref q ∧ SqT K H q xs ∧ xs.all flat3 = true ∧ xs.length ≤ 1000 ∧ b = (shOk0 xs && !decide (xs = [.int 0, .int 0]))) ∨ ∃ t, TyX K H v (.type t) ∧ kitB t "tuple" = some false ∧ b = false ∧ (flatB v = true ∨ ∃ a, v = .ref a)
theorem ShAt.mono {K : PySem.W.Frag} {H H' : Hp} {v : V} {b : Bool} (e : Ex H H') (h : ShAt K H v b) : ShAt K H' v b := by
  rcases h with ⟨q, xs, h1, h2, h3⟩ | ⟨t, h1, h2⟩
  · exact .inl ⟨q, xs, h1, ex_t e h2, h3⟩
  · exact .inr ⟨t, tyx_mono e h1, h2⟩
theorem ShAt.lock {K : PySem.W.Frag} {H : Hp} {v : V} {b : Bool} {d : Addr} {od : Obj} {kvs : List (Key × V)} (hd : H d = some (.dK kvs)) (h : ShAt K H v b) : ShAt K (upd H d (.frz od (.dK kvs))) v b := by
  rcases h with ⟨q, xs, h1, h2, h3⟩ | ⟨t, h1, h2⟩
  · exact .inl ⟨q, xs, h1, lock_t hd h2, h3⟩
  · exact .inr ⟨t, lock_ty hd h1, h2⟩
section
variable {K : PySem.W.Frag} {H : Hp} {x y : V}
theorem rv_neD {d e : PyData} (h1 : ∀ H1, Ex H H1 → Dp K H1 x d) (h2 : ∀ H1, Ex H H1 → Dp K H1 y e) (s1 : SeqAt.shaped d = true) (s2 : SeqAt.shaped e = true) : RV (rNeD K) x y H (.bl (!PyData.eqv d e)) := fun H1 e _ q => ⟨_, _, h1 H1 e, h2 H1 e, s1, s2, q H1 (Ex.refl H1)⟩
theorem rv_eqD {d e : PyData} (h1 : ∀ H1, Ex H H1 → Dp K H1 x d) (h2 : ∀ H1, Ex H H1 → Dp K H1 y e) (s1 : SeqAt.shaped d = true) (s2 : SeqAt.shaped e = true) : RV (rEqD K) x y H (.bl (PyData.eqv d e)) := fun H1 e _ q => ⟨_, _, h1 H1 e, h2 H1 e, s1, s2, q H1 (Ex.refl H1)⟩
theorem dp_two {q : Addr} {a b : Int} (h : SqT K H q [.int a, .int b]) : Dp K H (.ref q) (.tuple [.int a, .int b]) := .tup h (.cons (.int a) (.cons (.int b) .nil))
theorem eqv_two (a b c d : Int) : PyData.eqv (.tuple [.int a, .int b]) (.tuple [.int c, .int d]) = (decide (a = c) && decide (b = d)) := by
  simp [PyData.eqv, PyData.eqvAll, Bool.beq_eq_decide_eq]
theorem shaped_two (a b : Int) : SeqAt.shaped (.tuple [.int a, .int b]) = true := by
  simp [SeqAt.shaped, PyData.canLay0, PyData.canLayAll0, PyData.depth, PyData.depthAll]
def rLenD : List V → Hp → VK → Prop := fun xs H Q => ∃ (a : Addr) (kvs : List (Key × V)), xs = [V.ref a] ∧ H a = some (.dK kvs) ∧ Q (.int kvs.length) H
theorem rc_lenD {a : Addr} {kvs : List (Key × V)} (h : H a = some (.dK kvs)) : RC rLenD [.ref a] H (.int (kvs.length : Int)) := fun H1 e _ q => ⟨a, kvs, rfl, e _ _ h, q H1 (Ex.refl H1)⟩
end
section
variable {P : Program} {w : World} {K : PySem.W.Frag} {mg : Str → Option Value} {base : Heap}
abbrev spEntry (K : PySem.W.Frag) : Sp := SpF (fun x : Key × V × Bool => [kV x.1, x.2.1]) (fun x H => KeyLen x.1 ∧ ShAt K H x.2.1 x.2.2) (fun x _ => Is (.bl (keyOk x.1 && x.2.2)))
theorem sv_entry {k : Key} {v : V} {b : Bool} {H : Hp} (hk : KeyLen k) (h : ShAt K H v b) : SpV (spEntry K) [kV k, v] H (.bl (keyOk k && b)) := sv_of (sx_of (k, v, b) (fun _ e => ⟨hk, h.mono e⟩) fun _ _ _ _ _ h => h)
theorem ok_is_entry (T : Txt K mg) : FnOk P w K mg base CX0 3 T.a_is_entry T.d_is_entry ["name", "share"] (spEntry K) := by
  refine T.h_is_entry.F.ok sc_is_entry (fun vs H Q E h => ?_) (fun cdv A outer s H vs Q E hr h => ?_)
  · obtain ⟨x, rfl, _⟩ := h
    rfl
  · obtain ⟨⟨key, v, b⟩, rfl, ⟨hk, hs⟩, k⟩ := h
    simp only at hk hs k
    refine ⟨_, (pss_one (ps_ret (pe_and (pe_call (ok_is_name T) (hr.mono (by decide)) rfl T.h_is_name.m T.h_is_name.F.kp T.h_is_name.b .nil pass0 (pa_cons (pv 0) pa_nil)) (pe_and (pe_call (ok_is_share T) (hr.mono (by decide)) rfl T.h_is_share.m T.h_is_share.F.kp T.h_is_share.b .nil pass0 (pa_cons (pv 1) pa_nil)) (pe_one (pe_cmpR (op_neD hr.units) (pv 1) (pe_glob rfl T.g_NOTHING.1 T.g_NOTHING.2) (nomark _))))))), ?_⟩
    have hz := T.t_NOTHING
    have hn : Ev (tCall (spName K) [] E0 (tCons (tVar 0) tNil)) (L2.start ["name", "share"] [kV key, v]) H (.bl (keyOk key)) := by
      cases key with
      | inl i => exact ev_call (ea_cons (ev_var rfl) ea_nil) (sv_noName (t := "int") (.base (.int i)) (by decide +kernel))
      | inr s => exact ev_call (ea_cons (ev_var rfl) ea_nil) (sv_name hk)
    rcases hs with ⟨q, xs, rfl, hq, hf, hl, rfl⟩ | ⟨t, hty, ht, rfl, _⟩
    · refine s_ret (v := .bl (keyOk key && (shOk0 xs && !decide (xs = [.int 0, .int 0])))) (ev_andV hn fun _ => ?_) fun H1 e1 => k _ _ e1 rfl
      refine ev_andV (ev_call (ea_cons (ev_var rfl) ea_nil) (sv_isShare hq hf hl)) fun h2 => ?_
      have hx : ∃ a b : Int, xs = [.int a, .int b] := by
        unfold shOk0 at h2
        rw [Bool.and_eq_true] at h2
        have h3 := of_decide_eq_true h2.1
        have h4 := h2.2
        match xs, h3, h4 with
        | [x, y], _, h4 =>
          simp only [List.all_cons, List.all_nil, Bool.and_true, Bool.and_eq_true] at h4
          obtain ⟨a, rfl⟩ := numOk_int h4.1
          obtain ⟨b, rfl⟩ := numOk_int h4.2
          exact ⟨_, _, rfl⟩
      obtain ⟨a, b, rfl⟩ := hx
      refine ev_is (ev_op (ev_var rfl) ev_c (rv_neD (fun H1 e1 => dp_two (ex_t e1 hq)) (fun H1 e1 => dp_two (hz H1)) (shaped_two _ _) (shaped_two _ _))) ?_
      rw [eqv_two]
      congr 2
      by_cases h5 : a = 0
      · by_cases h6 : b = 0
        · rw [h5, h6]
          simp
        · simp [h6]
      · simp [h5]
    · refine s_ret (v := .bl (keyOk key && false)) (ev_andV hn fun _ => ?_) fun H1 e1 => k _ _ e1 rfl
      exact ev_is (v := .bl (false && false)) (ev_andV (ev_call (ea_cons (ev_var rfl) ea_nil) (sv_noShare hty ht)) fun h => by cases h) rfl
abbrev argsP : (Addr × List (Key × V × Bool)) ⊕ (V × String) → List V := fun x => match x with | .inl (d, _) => [.ref d] | .inr (v, _) => [v]
abbrev preP (K : PySem.W.Frag) : (Addr × List (Key × V × Bool)) ⊕ (V × String) → Hp → Prop := fun x H => match x with
  | .inl (d, es) => H d = some (.dK (es.map fun e => (e.1, e.2.1))) ∧ es.length ≤ 30000 ∧ ∀ e ∈ es, KeyLen e.1 ∧ ShAt K H e.2.1 e.2.2
  | .inr (v, t) => TyX K H v (.type t) ∧ kitB t "dict" = some false
def pageB (es : List (Key × V × Bool)) : Bool := decide (es.length ≤ 200) && es.all fun e => keyOk e.1 && e.2.2
abbrev postP : (Addr × List (Key × V × Bool)) ⊕ (V × String) → Hp → VP := fun x _ => match x with | .inl (_, es) => Is (.bl (pageB es)) | .inr _ => Is (.bl false)
abbrev spIsPage (K : PySem.W.Frag) : Sp := SpF argsP (preP K) postP
theorem ShAt.plain {K : PySem.W.Frag} {H : Hp} {v : V} {b : Bool} (h : ShAt K H v b) : flatB v = true ∨ ∃ a, v = .ref a := by
  rcases h with ⟨q, xs, h, _⟩ | ⟨t, _, _, _, h⟩
  · exact .inr ⟨q, h⟩
  · exact h
theorem sx_isPage {d : Addr} {es : List (Key × V × Bool)} {H : Hp} (hd : H d = some (.dK (es.map fun e => (e.1, e.2.1)))) (hl : es.length ≤ 30000) (he : ∀ e ∈ es, KeyLen e.1 ∧ ShAt K H e.2.1 e.2.2) : SpX (spIsPage K) [.ref d] H (Is (.bl (pageB es))) :=
  sx_of (α := (Addr × List (Key × V × Bool)) ⊕ (V × String)) (args := argsP) (.inl (d, es)) (fun _ e => ⟨e _ _ hd, hl, fun x hx => ⟨(he x hx).1, (he x hx).2.mono e⟩⟩) fun _ _ _ _ _ h => h
theorem sv_isPage {d : Addr} {es : List (Key × V × Bool)} {H : Hp} (hd : H d = some (.dK (es.map fun e => (e.1, e.2.1)))) (hl : es.length ≤ 30000) (he : ∀ e ∈ es, KeyLen e.1 ∧ ShAt K H e.2.1 e.2.2) : SpV (spIsPage K) [.ref d] H (.bl (pageB es)) :=
  sv_of (sx_of (α := (Addr × List (Key × V × Bool)) ⊕ (V × String)) (args := argsP) (.inl (d, es)) (fun _ e => ⟨e _ _ hd, hl, fun x hx => ⟨(he x hx).1, (he x hx).2.mono e⟩⟩) fun _ _ _ _ _ h => h)
theorem sv_noPage {v : V} {t : String} {H : Hp} (h : TyX K H v (.type t)) (ht : kitB t "dict" = some false) : SpV (spIsPage K) [v] H (.bl false) := sv_of (sx_of (α := (Addr × List (Key × V × Bool)) ⊕ (V × String)) (args := argsP) (.inr (v, t)) (fun _ e => ⟨tyx_mono e h, ht⟩) fun _ _ _ _ _ h => h)
theorem ok_is_page (T : Txt K mg) : FnOk P w K mg base CX0 4 T.a_is_page T.d_is_page ["thing"] (spIsPage K) := by
  refine T.h_is_page.F.ok sc_is_page (fun vs H Q E h => ?_) (fun cdv A outer s H vs Q E hr h => ?_)
  · obtain ⟨x, rfl, _⟩ := h
    rcases x with ⟨x, xs⟩ | ⟨x, t⟩ <;> rfl
  · obtain ⟨x, rfl, hp, k⟩ := h
    refine ⟨_, (pss_cons (ps_if (PW.pt (pw_or (pt_not (pt_val (pe_callB call_isi (by rfl) T.n_isinstance (by decide +kernel) (pa_cons (pv 0) (pa_cons (pe_bltn (v := .ty "dict") (u := .type "dict") (by rfl) T.n_dict (by decide +kernel) rfl) pa_nil))))) (pw_or1 (pt_cmpR op_gt (pe_callB call_lenD (by rfl) T.n_len PySem.boot_len (pa_cons (pv 0) pa_nil)) (pe_glob rfl T.g_MOST_NAMES.1 T.g_MOST_NAMES.2) (nomark _))))) (pss_one (ps_ret pe_bl)) pss_nil) (pss_one (ps_ret (pe_callB (cr_all rfl) (by rfl) T.n_all (by decide +kernel) (pa_cons (pe_lock (pe_lc (own := [("name", 1), ("share", 2)]) (by rfl) sc_is_page.nd (pi_items (pv 0)) (blkOk_by (own := [("name", 1), ("share", 2)]) (N := ["thing", "name", "share"]) (sc := defScope s_is_page) (by decide +kernel)) (fun _ _ _ _ _ => (pg_tupK (K := K) (n := 2) rfl rfl (pgs_cons (pg_name (i := 1) sc_is_page.nd rfl (by first | exact Or.inl rfl | exact Or.inr rfl)) (pgs_cons (pg_name (i := 2) sc_is_page.nd rfl (by first | exact Or.inl rfl | exact Or.inr rfl)) pgs_nil)) rfl rfl)) (fun _ _ _ _ _ => pts_nil) (fun _ _ _ _ _ => (pe_call (ok_is_entry T) (hr.mono (by decide)) rfl T.h_is_entry.m T.h_is_entry.F.kp T.h_is_entry.b .nil pass0 (pa_cons (pv 1) (pa_cons (pv 2) pa_nil)))))) pa_nil))))), ?_⟩
    rcases x with ⟨d, es⟩ | ⟨v, t⟩
    · obtain ⟨hd, hl, he⟩ := hp
      refine q_when (b := !true || decide ((200 : Int) < (es.length : Int))) (et_or (et_not (et_B (ev_cb (ea_cons (ev_var rfl) (ea_cons ev_c ea_nil)) (rc_isi (a := "dict") (fun H1 e1 => .base (.dK (e1 _ _ hd))) (by decide +kernel))))) fun _ => et_test (ev_op (ev_is (ev_cb (ea_cons (ev_var rfl) ea_nil) (rc_lenD hd)) (by rw [List.length_map])) ev_c rv_I0)) (fun hb H1 e1 => ?_) (fun hb H1 e1 => ?_)
      · refine s_ret ev_c fun H2 e2 => k _ _ (by walk_at "ex") ?_
        show _ = _
        have h2 : ¬ es.length ≤ 200 := by
          intro z
          simp at hb
          omega
        unfold pageB
        rw [decide_eq_false h2]
        rfl
      · have h2 : es.length ≤ 200 := by
          simp at hb
          omega
        have hd1 := e1 _ _ hd
        refine s_ret (x_all (bs := es.map fun e => keyOk e.1 && e.2.2) ?_) fun H2 e2 => k _ _ (by walk_at "ex") ?_
        · have hlk : ∀ e ∈ es, ∀ od, KeyLen e.1 ∧ ShAt K (upd H1 d (.frz od (.dK (es.map fun e => (e.1, e.2.1))))) e.2.1 e.2.2 := fun e h od => ⟨(he e h).1, ((he e h).2.mono e1).lock hd1⟩
          refine el_lockItems ((es.map fun e => keyOk e.1 && e.2.2).map V.bl) ?hv hd1 ?h ?hn ?hz ?hw ?_
          case hv => simp
          case h => intro H'; exact ev_var rfl
          case hn => rfl
          case hz => rw [List.length_map]; exact hl
          case hw => intro _ _; rfl
          intro m kv u hkv hu od H3 e3
          rw [List.getElem?_map] at hkv
          rw [List.getElem?_map, List.getElem?_map] at hu
          cases hem : es[m]? with
          | none =>
            rw [hem] at hkv
            cases hkv
          | some e =>
            rw [hem] at hkv hu
            obtain rfl := Option.some.inj hkv
            obtain rfl := Option.some.inj hu
            have hm := List.mem_of_getElem? hem
            exact ev_call (ea_cons (ev_var rfl) (ea_cons (ev_var rfl) ea_nil)) (sv_entry (hlk e hm od).1 ((hlk e hm od).2.mono e3))
        · show _ = _
          unfold pageB
          rw [decide_eq_true h2, Bool.true_and, List.all_map]
          rfl
    · refine q_when (b := true) ?_ (fun hb H1 e1 => ?_) (fun hb H1 e1 => by cases hb)
      · exact et_or (a := true) (b := true) (et_not (a := false) (et_B (ev_cb (ea_cons (ev_var rfl) (ea_cons ev_c ea_nil)) (rc_isi (fun H1 e1 => tyx_mono e1 hp.1) hp.2)))) (fun h => by cases h)
      · exact s_ret ev_c fun H2 e2 => k _ _ (by walk_at "ex") rfl
end

def cellAt (ns : List Int) (k : Int) : Int := ns[k.toNat]?.getD 0
section
variable {P : Program} {w : World} {K : PySem.W.Frag} {mg : Str → Option Value} {base : Heap}
abbrev spCell (K : PySem.W.Frag) : Sp := SpF (fun x : Addr × List Int × Int => [.ref x.1, .int x.2.2]) (fun x H => SqL K H x.1 (x.2.1.map V.int) ∧ 0 ≤ x.2.2) (fun x _ => Is (.int (cellAt x.2.1 x.2.2)))
theorem sv_cell {H : Hp} {a : Addr} {ns : List Int} {k : Int} (h : SqL K H a (ns.map V.int)) (hk : 0 ≤ k) : SpV (spCell K) [.ref a, .int k] H (.int (cellAt ns k)) := sv_of (sx_of (a, ns, k) (fun _ e => ⟨ex_l e h, hk⟩) fun _ _ _ _ _ h => h)
theorem ok_law_cell_at (T : Txt K mg) : FnOk P w K mg base CX0 1 T.a_law_cell_at T.d_law_cell_at ["_law_script", "_law_k"] (spCell K) := by
  refine T.h_law_cell_at.F.ok sc_law_cell_at (fun vs H Q E h => ?_) (fun cdv A outer s H vs Q E hr h => ?_)
  · obtain ⟨c, rfl, _⟩ := h
    rfl
  · obtain ⟨⟨a, ns, j⟩, rfl, ⟨hs, hj⟩, k⟩ := h
    simp only at hs hj k
    refine ⟨_, (pss_cons (ps_if (pt_cmpR op_lt (pv 1) (pe_callB call_len_seq (by rfl) T.n_len PySem.boot_len (pa_cons (pv 0) pa_nil)) (nomark _)) (pss_one (ps_ret (pe_ix ix_list (pv 0) (pv 1) (fun _ _ => rfl)))) pss_nil) (pss_one (ps_ret pe_int))), ?_⟩
    refine q_when (by walk_at "ev") (fun hb H2 e2 => ?_) (fun hb H2 e2 => ?_)
    · have hb' : j < ((ns.map V.int).length : Int) := of_decide_eq_true hb
      rw [List.length_map] at hb'
      have hlt : j.toNat < ns.length := by omega
      have e0 : ((j.toNat : Nat) : Int) = j := by omega
      refine s_ret (ev_op (ev_var rfl) (ev_var rfl) (rv_ixL (xs := ns.map V.int) (v := .int (cellAt ns j)) (ex_l e2 hs) ?_)) fun H3 e3 => k _ _ (by walk_at "ex") rfl
      show atI (ns.map V.int) j = _
      rw [← e0]
      refine atI_nat ?_
      rw [List.getElem?_map, List.getElem?_eq_getElem hlt]
      unfold cellAt
      rw [e0, List.getElem?_eq_getElem hlt]
      rfl
    · have hb' : ¬ j < ((ns.map V.int).length : Int) := of_decide_eq_false hb
      rw [List.length_map] at hb'
      refine s_ret ev_c fun H3 e3 => k _ _ (by walk_at "ex") ?_
      show _ = _
      rw [cellAt, List.getElem?_eq_none (by omega)]
      rfl
end
local macro_rules | `(tactic| walk_at "sv") => `(tactic| exact sv_cell (by walk_at "sq") (by decide))

def numBy (c : Int) : Int := if c % 5 < 2 then c / 5 % 3 * (c % 5) else if c % 5 = 2 then c / 5 % 1000 else if c % 5 = 3 then c / 5 % (10 ^ (60 : Int).toNat) else 10 ^ (60 : Int).toNat - 1 - c / 5 % 1000
section
variable {P : Program} {w : World} {K : PySem.W.Frag} {mg : Str → Option Value} {base : Heap}
abbrev spNum : Sp := SpF (fun c : Int => [.int c]) (fun _ _ => True) (fun c _ => Is (.int (numBy c)))
theorem sv_num {c : Int} {H : Hp} : SpV spNum [.int c] H (.int (numBy c)) := sv_of (sx_of c (fun _ _ => trivial) fun _ _ _ _ _ h => h)
theorem ok_law_number_by (T : Txt K mg) : FnOk P w K mg base CX0 1 T.a_law_number_by T.d_law_number_by ["_law_cell"] spNum := by
  refine T.h_law_number_by.F.ok sc_law_number_by (fun vs H Q E h => ?_) (fun cdv A outer s H vs Q E hr h => ?_)
  · obtain ⟨c, rfl, _⟩ := h
    rfl
  · obtain ⟨c, rfl, _, k⟩ := h
    refine ⟨_, (pss_cons (ps_set (i := 1) sc_law_number_by.nd rfl (by first | exact Or.inl rfl | exact Or.inr rfl) (pe_op op_mod (pv 0) pe_int)) (pss_cons (ps_if (pt_cmpR op_lt (pv 1) pe_int (nomark _)) (pss_one (ps_ret (pe_op op_mul (pe_op op_mod (pe_op op_fdiv (pv 0) pe_int) pe_int) (pv 1)))) pss_nil) (pss_cons (ps_if (pt_cmpR op_eq (pv 1) pe_int (nomark _)) (pss_one (ps_ret (pe_op op_mod (pe_op op_fdiv (pv 0) pe_int) pe_int))) pss_nil) (pss_cons (ps_if (pt_cmpR op_eq (pv 1) pe_int (nomark _)) (pss_one (ps_ret (pe_op op_mod (pe_op op_fdiv (pv 0) pe_int) (pe_op op_pow pe_int pe_int)))) pss_nil) (pss_one (ps_ret (pe_op op_sub (pe_op op_sub (pe_op op_pow pe_int pe_int) pe_int) (pe_op op_mod (pe_op op_fdiv (pv 0) pe_int) pe_int)))))))), ?_⟩
    refine q_asg (by walk_at "ev") fun H1 e1 => ?_
    refine q_when (by walk_at "ev") (fun hb H2 e2 => ?_) (fun hb H2 e2 => ?_)
    · refine s_ret (by walk_at "ev") fun H3 e3 => ?_
      refine k _ _ (by walk_at "ex") ?_
      show _ = _
      rw [numBy, if_pos (of_decide_eq_true hb)]
    refine q_when (by walk_at "ev") (fun hc H3 e3 => ?_) (fun hc H3 e3 => ?_)
    · refine s_ret (by walk_at "ev") fun H4 e4 => ?_
      refine k _ _ (by walk_at "ex") ?_
      show _ = _
      rw [numBy, if_neg (of_decide_eq_false hb), if_pos (V.int.inj (of_decide_eq_true hc))]
    refine q_when (by walk_at "ev") (fun hd H4 e4 => ?_) (fun hd H4 e4 => ?_)
    · refine s_ret (by walk_at "ev") fun H5 e5 => ?_
      refine k _ _ (by walk_at "ex") ?_
      show _ = _
      rw [numBy, if_neg (of_decide_eq_false hb), if_neg (fun z => of_decide_eq_false hc (congrArg V.int z)), if_pos (V.int.inj (of_decide_eq_true hd))]
    · refine s_ret (by walk_at "ev") fun H5 e5 => ?_
      refine k _ _ (by walk_at "ex") ?_
      show _ = _
      rw [numBy, if_neg (of_decide_eq_false hb), if_neg (fun z => of_decide_eq_false hc (congrArg V.int z)), if_neg (fun z => of_decide_eq_false hd (congrArg V.int z))]
end
local macro_rules | `(tactic| walk_at "sv") => `(tactic| exact sv_num)

section
variable {P : Program} {w : World} {K : PySem.W.Frag} {mg : Str → Option Value} {base : Heap}
abbrev spTruth : Sp := SpF (fun x : Bool × Bool => [.bl x.1, .bl x.2]) (fun _ _ => True) (fun x H => Is (.bl (decide (V.bl x.1 = V.bl x.2))))
theorem sv_truth {a b : Bool} {H : Hp} : SpV spTruth [.bl a, .bl b] H (.bl (decide (V.bl a = V.bl b))) := sv_of (sx_of (a, b) (fun _ _ => trivial) fun _ _ _ _ _ h => h)
theorem ok_law_truth (T : Txt K mg) : FnOk P w K mg base CX0 1 T.a_law_truth T.d_law_truth ["_law_found", "_law_due"] spTruth := by
  refine T.h_law_truth.F.ok sc_law_truth (fun vs H Q E h => ?_) (fun cdv A outer s H vs Q E hr h => ?_)
  · obtain ⟨c, rfl, _⟩ := h
    rfl
  · obtain ⟨⟨a, b⟩, rfl, _, k⟩ := h
    simp only at k
    refine ⟨_, (pss_one (ps_ret (pe_and (pe_callB call_isi (by rfl) T.n_isinstance (by decide +kernel) (pa_cons (pv 0) (pa_cons (pe_bltn (v := .ty "bool") (u := .type "bool") (by rfl) T.n_bool (by decide +kernel) rfl) pa_nil))) (pe_one (pe_cmpR op_eq (pv 0) (pv 1) (nomark _)))))), ?_⟩
    refine s_ret (by walk_at "ev") fun H1 e1 => ?_
    refine k _ _ e1 ?_
    show _ = _
    simp
end
local macro_rules | `(tactic| walk_at "sv") => `(tactic| exact sv_truth)

/-! ### the law's names -/
def lowC' (c : Nat) : Prop := 97 ≤ c ∧ c ≤ 122
def letter (i : Int) : Nat := 97 + (i % 26).toNat
theorem letter_low (i : Int) : lowC' (letter i) := by
  unfold letter lowC'
  have := Int.emod_nonneg i (by decide : (26 : Int) ≠ 0)
  have := Int.emod_lt_of_pos i (by decide : (0 : Int) < 26)
  omega
def alpha : List Nat := (List.range 26).map (· + 97)
theorem alpha_str : Str.ofString "abcdefghijklmnopqrstuvwxyz" = ofL alpha := by decide +kernel
theorem alpha_at (i : Int) : alpha[(i % 26).toNat]? = some (letter i) := by
  have h1 := Int.emod_nonneg i (by decide : (26 : Int) ≠ 0)
  have h2 := Int.emod_lt_of_pos i (by decide : (0 : Int) < 26)
  unfold alpha letter
  rw [List.getElem?_map, List.getElem?_range (by omega)]
  show some _ = some _
  congr 1
  exact Nat.add_comm _ _
theorem alpha_ix (i : Int) : atI alpha (i % 26) = some (letter i) := by
  have h1 := Int.emod_nonneg i (by decide : (26 : Int) ≠ 0)
  have e0 : (((i % 26).toNat : Nat) : Int) = i % 26 := by omega
  rw [← e0]
  exact atI_nat (alpha_at i)
def nameBase (c : Int) : List Nat := (List.range (1 + c % 8).toNat).map fun (k : Nat) => letter (c / 8 + (k : Int) * (1 + c / 208 % 25))
def nameBy (c : Int) : List Nat := if c / 5200 % 2 = 1 then (nameBase c).set (c / 10400 % (nameBase c).length).toNat (letter (c / 83200)) else nameBase c
theorem nameBase_len (c : Int) : ((nameBase c).length : Int) = 1 + c % 8 := by
  unfold nameBase
  rw [List.length_map, List.length_range]
  have h1 := Int.emod_nonneg c (by decide : (8 : Int) ≠ 0)
  omega
theorem nameBy_len (c : Int) : ((nameBy c).length : Int) = 1 + c % 8 := by
  unfold nameBy
  split
  · rw [List.length_set]; exact nameBase_len c
  · exact nameBase_len c
theorem nameBy_low (c : Int) : ∀ x ∈ nameBy c, lowC' x := by
  have hb : ∀ x ∈ nameBase c, lowC' x := by
    intro x hx
    unfold nameBase at hx
    obtain ⟨k, _, rfl⟩ := List.mem_map.mp hx
    exact letter_low _
  intro x hx
  unfold nameBy at hx
  split at hx
  · rcases List.mem_or_eq_of_mem_set hx with h | rfl
    · exact hb x h
    · exact letter_low _
  · exact hb x hx
/-- a name by its signs -/
def GoodN (cs : List Nat) : Prop := 1 ≤ cs.length ∧ cs.length ≤ 8 ∧ ∀ x ∈ cs, lowC' x
theorem nameBy_good (c : Int) : GoodN (nameBy c) := by
  have h := nameBy_len c
  have h1 := Int.emod_nonneg c (by decide : (8 : Int) ≠ 0)
  have h2 := Int.emod_lt_of_pos c (by decide : (0 : Int) < 8)
  exact ⟨by omega, by omega, nameBy_low c⟩
section
variable {P : Program} {w : World} {K : PySem.W.Frag} {mg : Str → Option Value} {base : Heap}
abbrev spNameBy : Sp := SpF (fun c : Int => [.int c]) (fun _ _ => True) (fun c _ => Is (.str (ofL (nameBy c))))
theorem sv_nameBy {c : Int} {H : Hp} : SpV spNameBy [.int c] H (.str (ofL (nameBy c))) := sv_of (sx_of c (fun _ _ => trivial) fun _ _ _ _ _ h => h)
theorem ok_law_name_by (T : Txt K mg) : FnOk P w K mg base CX0 1 T.a_law_name_by T.d_law_name_by ["_law_cell"] spNameBy := by
  refine T.h_law_name_by.F.ok sc_law_name_by (fun vs H Q E h => ?_) (fun cdv A outer s H vs Q E hr h => ?_)
  · obtain ⟨c, rfl, _⟩ := h
    rfl
  · obtain ⟨c, rfl, _, k⟩ := h
    refine ⟨_, (pss_cons (ps_set (i := 1) sc_law_name_by.nd rfl (by first | exact Or.inl rfl | exact Or.inr rfl) pe_str) (pss_cons (ps_set (i := 2) sc_law_name_by.nd rfl (by first | exact Or.inl rfl | exact Or.inr rfl) (pe_op op_add pe_int (pe_op op_mod (pe_op op_fdiv (pv 0) pe_int) pe_int))) (pss_cons (ps_setLc (i := 3) (own := [("_law_k", 4)]) (g := _)  rfl sc_law_name_by.nd rfl rfl (sw_true rfl rfl rfl (by decide +kernel)) (pi_range1 (by rfl) T.n_range (pa_cons (pe_op op_add pe_int (pe_op op_mod (pv 0) pe_int)) pa_nil)) (blkOk_by (own := [("_law_k", 4)]) (N := ["_law_cell", "_law_signs", "_law_step", "_law_word", "_law_k"]) (sc := defScope s_law_name_by) (by decide +kernel)) (fun _ _ _ _ _ => (pg_name (i := 4) sc_law_name_by.nd rfl (by first | exact Or.inl rfl | exact Or.inr rfl))) (fun _ _ _ _ _ => pts_nil) (fun _ _ _ _ _ => (pe_ix ix_str (pv 1) (pe_op op_mod (pe_op op_add (pe_op op_fdiv (pv 0) pe_int) (pe_op op_mul (pv 4) (pv 2))) pe_int) (fun _ _ => rfl)))) (pss_cons (ps_if (pt_cmpR op_eq (pe_op op_mod (pe_op op_fdiv (pv 0) pe_int) pe_int) pe_int (nomark _)) (pss_one (ps_asg (pe_ix ix_str (pv 1) (pe_op op_mod (pe_op op_fdiv (pv 0) pe_int) pe_int) (fun _ _ => rfl)) (pg_sub (pv 3) (pe_op op_mod (pe_op op_fdiv (pv 0) pe_int) (pe_callB call_len_seq (by rfl) T.n_len PySem.boot_len (pa_cons (pv 3) pa_nil))) set_list))) pss_nil) (pss_one (ps_ret (pe_join pe_str (pv 3)))))))), ?_⟩
    have h1 := Int.emod_nonneg c (by decide : (8 : Int) ≠ 0)
    have h2 := Int.emod_lt_of_pos c (by decide : (0 : Int) < 8)
    have h3 := Int.emod_nonneg (c / 208) (by decide : (25 : Int) ≠ 0)
    have h4 := Int.emod_lt_of_pos (c / 208) (by decide : (0 : Int) < 25)
    have hl := nameBase_len c
    refine q_asg (v := .str (ofL alpha)) (ev_is ev_c (by rw [alpha_str])) fun H1 e1 => ?_
    refine q_asg (by walk_at "ev") fun H2 e2 => ?_
    refine q_asgL (el_lcR1 (n := 1 + c % 8) (fun _ => true) (fun i => .str (sg (letter (c / 8 + (i : Int) * (1 + c / 208 % 25))))) (ea_cons (by walk_at "ev") ea_nil) (by omega) (fun _ => rfl) (fun i H3 e3 hi => et_yes) (fun i H3 e3 hi _ => ?_)) fun p H3 hp e3 h3 => ?_
    · refine ev_op (y := .int ((c / 8 + (i : Int) * (1 + c / 208 % 25)) % 26)) (ev_var rfl) ?_ (rv_ixS (by rw [ofL_len]; decide) (alpha_ix _))
      exact ev_op (ev_op (ev_op (ev_var rfl) ev_c (rv_I ⟨by decide, by decide⟩)) (ev_op (ev_var rfl) (ev_var rfl) (rv_I (Or.inl ⟨by omega, by omega⟩))) rv_I0) ev_c (rv_I (by show (0 : Int) < 26; decide))
    rw [given_all] at h3
    have h3' : H3 p = some (.lst (((nameBase c).map sg).map V.str)) := by
      rw [h3]
      unfold nameBase
      rw [List.map_map, List.map_map]
      rfl
    clear h3
    refine q_when (b := decide (V.int (c / 5200 % 2) = V.int 1)) (by walk_at "ev") (fun hb H4 e4 => ?_) (fun hb H4 e4 => ?_)
    · have hb' := V.int.inj (of_decide_eq_true hb)
      have hn : (0 : Int) < (nameBase c).length := by omega
      have hm1 : 0 ≤ c / 10400 % ((nameBase c).length : Int) := Int.emod_nonneg _ (by omega)
      have hm2 : c / 10400 % ((nameBase c).length : Int) < (nameBase c).length := Int.emod_lt_of_pos _ hn
      refine s_setL (l := p) (xs := ((nameBase c).map sg).map V.str) (j := (c / 10400 % ((nameBase c).length : Int)).toNat) (v := .str (sg (letter (c / 83200)))) (e4 _ _ h3') ?_ (ev_var rfl) ?_ (by simp; omega) fun H5 e5 => ?_
      · exact ev_op (y := .int (c / 83200 % 26)) (ev_var rfl) (by walk_at "ev") (rv_ixS (by rw [ofL_len]; decide) (alpha_ix _))
      · have e5 : (((c / 10400 % ((nameBase c).length : Int)).toNat : Nat) : Int) = c / 10400 % ((nameBase c).length : Int) := by omega
        rw [e5]
        exact ev_op (by walk_at "ev") (ev_is (ev_cb (ea_cons (ev_var rfl) ea_nil) (rc_lenL (sq_of (e4 _ _ h3')))) (by simp)) (rv_I hn)
      dsimp only
      have e6 : (((nameBase c).map sg).map V.str).set (c / 10400 % ((nameBase c).length : Int)).toNat (.str (sg (letter (c / 83200)))) = ((nameBy c).map sg).map V.str := by
        unfold nameBy
        rw [if_pos hb', List.map_set, List.map_set]
      rw [e6]
      have hg := nameBy_good c
      refine s_ret (x_join (cs := nameBy c) ev_c (x_varL rfl (sq_of upd_same)) (by have := hg.2.1; omega)) fun H6 e6 => k _ _ ?_ rfl
      refine Ex.trans (Ex.mut ?_ (fresh_back e1 (fresh_back e2 hp))) e6
      walk_at "ex"
    · have hb' : ¬ c / 5200 % 2 = 1 := fun z => of_decide_eq_false hb (congrArg V.int z)
      have e6 : nameBase c = nameBy c := by
        unfold nameBy
        rw [if_neg hb']
      rw [e6] at h3'
      have hg := nameBy_good c
      refine s_ret (x_join (cs := nameBy c) ev_c (x_varL rfl (sq_of (e4 _ _ h3'))) (by have := hg.2.1; omega)) fun H5 e5 => k _ _ (by walk_at "ex") rfl
def mixed (c k : Int) : Int := (c % 1000000007 + 7919 * k + 11) * 48271 % 2147483647
theorem mixed_nn (c k : Int) : 0 ≤ mixed c k := Int.emod_nonneg _ (by decide)
abbrev spMixed : Sp := SpF (fun x : Int × Int => [.int x.1, .int x.2]) (fun _ _ => True) (fun x _ => Is (.int (mixed x.1 x.2)))
theorem sv_mixed {c k : Int} {H : Hp} : SpV spMixed [.int c, .int k] H (.int (mixed c k)) := sv_of (sx_of (c, k) (fun _ _ => trivial) fun _ _ _ _ _ h => h)
theorem ok_law_mixed (T : Txt K mg) : FnOk P w K mg base CX0 1 T.a_law_mixed T.d_law_mixed ["_law_cell", "_law_k"] spMixed := by
  refine T.h_law_mixed.F.ok sc_law_mixed (fun vs H Q E h => ?_) (fun cdv A outer s H vs Q E hr h => ?_)
  · obtain ⟨c, rfl, _⟩ := h
    rfl
  · obtain ⟨⟨c, i⟩, rfl, _, k⟩ := h
    refine ⟨_, (pss_one (ps_ret (pe_op op_mod (pe_op op_mul (pe_op op_add (pe_op op_add (pe_op op_mod (pv 0) pe_int) (pe_op op_mul pe_int (pv 1))) pe_int) pe_int) pe_int))), ?_⟩
    refine s_ret (by walk_at "ev") fun H1 e1 => ?_
    exact k _ _ e1 rfl
end
local macro_rules | `(tactic| walk_at "sv") => `(tactic| exact sv_nameBy)
local macro_rules | `(tactic| walk_at "sv") => `(tactic| exact sv_mixed)

/-! ### bounds, names, rows -/
abbrev BIG : Int := 1000000000000000000000000000000000000000000000000000000000000
theorem big_eq : (10 : Int) ^ (60 : Int).toNat = BIG := by decide +kernel
theorem numBy_bd (c : Int) : 0 ≤ numBy c ∧ numBy c < BIG := by
  have a1 := Int.emod_nonneg (c / 5) (by decide : (3 : Int) ≠ 0)
  have a2 := Int.emod_lt_of_pos (c / 5) (by decide : (0 : Int) < 3)
  have b1 := Int.emod_nonneg (c / 5) (by decide : (1000 : Int) ≠ 0)
  have b2 := Int.emod_lt_of_pos (c / 5) (by decide : (0 : Int) < 1000)
  have c1 := Int.emod_nonneg (c / 5) (by decide : BIG ≠ 0)
  have c2 := Int.emod_lt_of_pos (c / 5) (by decide : (0 : Int) < BIG)
  have d1 := Int.emod_nonneg c (by decide : (5 : Int) ≠ 0)
  unfold numBy
  rw [big_eq]
  split
  · rename_i h
    have : c % 5 = 0 ∨ c % 5 = 1 := by omega
    rcases this with e | e <;> rw [e] <;> unfold BIG at * <;> omega
  · split
    · unfold BIG at *; omega
    · split
      · exact ⟨c1, c2⟩
      · unfold BIG at *; omega
theorem low_ok {cs : List Nat} (h : ∀ x ∈ cs, lowC' x) : cs.all lowC = true := List.all_eq_true.mpr fun x hx => by
  have := h x hx
  unfold lowC' at this
  unfold lowC
  simp [this.1, this.2]
theorem good_ok {cs : List Nat} (h : GoodN cs) : nameOk (ofL cs) = true := by
  unfold nameOk
  have e : (ofL cs).length = cs.length := ofL_len cs
  have e2 : (ofL cs).cps.toList = cs := rfl
  rw [e, e2, low_ok h.2.2, decide_eq_true (by have := h.1; omega), decide_eq_true (by have := h.2.1; omega)]
  rfl
theorem cut_take (cs : List Nat) (n : Nat) : cutS (ofL cs) none (some (n : Int)) = ofL (cs.take n) := by
  unfold cutS
  rw [HT.sIx_none, HT.sIx_nat]
  have e : (ofL cs).length = cs.length := ofL_len cs
  have e2 : (ofL cs).cps.toList = cs := rfl
  rw [e, e2]
  show ofL _ = ofL _
  congr 1
  rw [List.drop_zero, Nat.sub_zero]
  rcases Nat.le_total n cs.length with h | h
  · rw [Nat.min_eq_left h]
  · rw [Nat.min_eq_right h, List.take_length, List.take_of_length_le h]
section
variable {K : PySem.W.Frag} {σ : L2.St} {H H' : Hp} {ta tb te tx : TE} {x y z v : V} {P : VP}
theorem ev_slS {cs : List Nat} {tk : TE} {n : Nat} (h : Ev te σ H (.str (ofL cs))) (hk : Ev tk σ H (.int (n : Int))) (hl : cs.length ≤ 100000) : Ev (tSl rSlS te tNoPart (tPart tk)) σ H (.str (ofL (cs.take n))) := fun H1 e Q q =>
  h H1 e _ fun H2 e2 => hk H2 (e.trans e2) _ fun H3 e3 => ⟨n, rfl, ofL cs, rfl, sz_of (by rw [ofL_len]; exact hl), by
    rw [cut_take]
    exact q H3 (e2.trans e3)⟩
theorem x_cat {n m : Nat} [Mono P] (h1 : EvX ta σ H (fun v H2 => ∃ p vs, v = .ref p ∧ H p = none ∧ H2 p = some (.lst vs) ∧ AllP P n vs H2)) (h2 : EvX tb σ H (fun v H2 => ∃ p vs, v = .ref p ∧ H p = none ∧ H2 p = some (.lst vs) ∧ AllP P m vs H2)) (hl : n + m ≤ 100000) :
    EvX (tOp rCat ta tb) σ H (fun v H2 => ∃ p vs, v = .ref p ∧ H p = none ∧ H2 p = some (.lst vs) ∧ AllP P (n + m) vs H2) := fun H1 e Q q =>
  h1 H1 e _ fun v1 H2 e2 hv1 => h2 H2 (e.trans e2) _ fun v2 H3 e3 hv2 => by
    obtain ⟨p, vs, rfl, hp, h3, h4⟩ := hv1
    obtain ⟨p', vs', rfl, hp', h3', h4'⟩ := hv2
    refine ⟨p, p', vs, vs', rfl, rfl, e3 _ _ h3, h3', sz_of (by rw [h4.1, h4'.1]; exact hl), fun r hr => q _ _ ((e2.trans e3).trans (Ex.new hr)) ⟨r, vs ++ vs', rfl, fresh_back e (fresh_back (e2.trans e3) hr), upd_same, by rw [List.length_append, h4.1, h4'.1], fun u hu => ?_⟩⟩
    rcases List.mem_append.mp hu with hu | hu
    · exact Mono.mono (e3.trans (Ex.new hr)) (h4.2 u hu)
    · exact Mono.mono (Ex.new hr) (h4'.2 u hu)
end
/-- a row: a pair of a key and a share, and whether the share is one -/
def RowAt (K : PySem.W.Frag) (H : Hp) (v : V) (e : Key × V × Bool) : Prop := ∃ p, v = .ref p ∧ SqT K H p [kV e.1, e.2.1] ∧ KeyLen e.1 ∧ ShAt K H e.2.1 e.2.2
theorem RowAt.mono {K : PySem.W.Frag} {H H' : Hp} {v : V} {e : Key × V × Bool} (x : Ex H H') (h : RowAt K H v e) : RowAt K H' v e := by
  obtain ⟨p, h1, h2, h3, h4⟩ := h
  exact ⟨p, h1, ex_t x h2, h3, h4.mono x⟩
def eOk (e : Key × V × Bool) : Bool := keyOk e.1 && e.2.2
def RowsAt (K : PySem.W.Frag) (H : Hp) (vs : List V) (es : List (Key × V × Bool)) : Prop := vs.length = es.length ∧ ∀ (i : Nat) v e, vs[i]? = some v → es[i]? = some e → RowAt K H v e
theorem RowsAt.mono {K : PySem.W.Frag} {H H' : Hp} {vs : List V} {es : List (Key × V × Bool)} (x : Ex H H') (h : RowsAt K H vs es) : RowsAt K H' vs es := ⟨h.1, fun i v e h1 h2 => (h.2 i v e h1 h2).mono x⟩
/-- an object that was not there may change: rows lean on tuples, and on lists and classes -/
theorem ShAt.upd {K : PySem.W.Frag} {H : Hp} {v : V} {b : Bool} {l : Addr} {xs ys : List V} (hl : H l = some (.lst xs)) (h : ShAt K H v b) : ShAt K (L2.upd H l (.lst ys)) v b := by
  have ht : ∀ {q zs}, SqT K H q zs → SqT K (L2.upd H l (.lst ys)) q zs := fun {q zs} h => by
    rcases h with (h | ⟨o, h⟩) | h
    · exact .inl (.inl (by rw [upd_ne (ne_of h hl (by intro z; cases z))]; exact h))
    · exact .inl (.inr ⟨o, by rw [upd_ne (ne_of h hl (by intro z; cases z))]; exact h⟩)
    · exact .inr h
  rcases h with ⟨q, xs, h1, h2, h3⟩ | ⟨t, h1, h2⟩
  · exact .inl ⟨q, xs, h1, ht h2, h3⟩
  · refine .inr ⟨t, ?_, h2⟩
    cases h1 with
    | base h =>
      cases h with
      | non => exact .base .non
      | bl b => exact .base (.bl b)
      | int i => exact .base (.int i)
      | str s => exact .base (.str s)
      | flt b => exact .base (.flt b)
      | @lst a zs h =>
        by_cases e : a = l
        · subst e
          exact .base (.lst upd_same)
        · exact .base (.lst (by rw [upd_ne e]; exact h))
      | frz h => exact .base (.frz (by rw [upd_ne (ne_of h hl (by intro z; cases z))]; exact h))
      | tup h => exact .base (.tup (by rw [upd_ne (ne_of h hl (by intro z; cases z))]; exact h))
      | dK h => exact .base (.dK (by rw [upd_ne (ne_of h hl (by intro z; cases z))]; exact h))
      | dT h => exact .base (.dT (by rw [upd_ne (ne_of h hl (by intro z; cases z))]; exact h))
    | byt b => exact .byt b
    | set h => exact .set (by rw [upd_ne (ne_of h hl (by intro z; cases z))]; exact h)
    | kList h c => exact .kList h c
    | kTuple h c => exact .kTuple h c
    | kDict h c => exact .kDict h c
    | fTuple h => exact .fTuple (by rw [upd_ne (ne_of h hl (by intro z; cases z))]; exact h)
    | fDict h => exact .fDict (by rw [upd_ne (ne_of h hl (by intro z; cases z))]; exact h)
theorem RowAt.upd {K : PySem.W.Frag} {H : Hp} {v : V} {e : Key × V × Bool} {l : Addr} {xs ys : List V} (hl : H l = some (.lst xs)) (h : RowAt K H v e) : RowAt K (L2.upd H l (.lst ys)) v e := by
  obtain ⟨p, h1, h2, h3, h4⟩ := h
  refine ⟨p, h1, ?_, h3, h4.upd hl⟩
  rcases h2 with (h | ⟨o, h⟩) | h
  · exact .inl (.inl (by rw [upd_ne (ne_of h hl (by intro z; cases z))]; exact h))
  · exact .inl (.inr ⟨o, by rw [upd_ne (ne_of h hl (by intro z; cases z))]; exact h⟩)
  · exact .inr h
theorem sh_two {K : PySem.W.Frag} {H : Hp} {q : Addr} {a b : Int} (h : SqT K H q [.int a, .int b]) (ha : 0 ≤ a ∧ a < BIG) (hb : 1 ≤ b ∧ b < BIG) : ShAt K H (.ref q) true := .inl ⟨q, _, rfl, h, rfl, by show (2 : Nat) ≤ 1000; decide, by
  have h1 : shOk0 [.int a, .int b] = true := by
    unfold BIG at *
    simp [shOk0, numOk]
    omega
  rw [h1]
  have h2 : ¬ ([V.int a, V.int b] = [.int 0, .int 0]) := fun z => by
    injection z with z1 z2
    injection z2 with z2 z3
    have := V.int.inj z2
    omega
  simp [h2]⟩
section
variable {P : Program} {w : World} {K : PySem.W.Frag} {mg : Str → Option Value} {base : Heap}
abbrev spRows (K : PySem.W.Frag) : Sp := SpF (fun x : Int × Int × Int => [.int x.1, .int x.2.1, .int x.2.2]) (fun x _ => 0 ≤ x.2.2 ∧ x.2.2 ≤ 201)
  (fun x H v H2 => ∃ p vs es, v = .ref p ∧ H p = none ∧ H2 p = some (.lst vs) ∧ (vs.length : Int) = x.2.2 ∧ RowsAt K H2 vs es ∧ es.all eOk = true)
theorem ok_law_rows_by (T : Txt K mg) : FnOk P w K mg base CX0 2 T.a_law_rows_by T.d_law_rows_by ["_law_names", "_law_shares", "_law_size"] (spRows K) := by
  refine T.h_law_rows_by.F.ok sc_law_rows_by (fun vs H Q E h => ?_) (fun cdv A outer s H vs Q E hr h => ?_)
  · obtain ⟨c, rfl, _⟩ := h
    rfl
  · obtain ⟨⟨nm, sh, n⟩, rfl, hn, k⟩ := h
    simp only at hn k
    refine ⟨_, (pss_cons (ps_set (i := 3) sc_law_rows_by.nd rfl (by first | exact Or.inl rfl | exact Or.inr rfl) (pe_lst pa_nil)) (pss_cons (ps_for PassesOwn.never rfl (pi_range1 (by rfl) T.n_range (pa_cons (pv 2) pa_nil)) (pg_name (i := 4) sc_law_rows_by.nd rfl (by first | exact Or.inl rfl | exact Or.inr rfl)) (pss_cons (ps_set (i := 5) sc_law_rows_by.nd rfl (by first | exact Or.inl rfl | exact Or.inr rfl) (pe_tup (pa_cons (pe_call (ok_law_number_by T) (hr.mono (by decide)) rfl T.h_law_number_by.m T.h_law_number_by.F.kp T.h_law_number_by.b .nil pass0 (pa_cons (pe_call (ok_law_mixed T) (hr.mono (by decide)) rfl T.h_law_mixed.m T.h_law_mixed.F.kp T.h_law_mixed.b .nil pass0 (pa_cons (pv 1) (pa_cons (pe_op op_mul pe_int (pv 4)) pa_nil))) pa_nil)) (pa_cons (pe_op op_add pe_int (pe_op op_mod (pe_call (ok_law_mixed T) (hr.mono (by decide)) rfl T.h_law_mixed.m T.h_law_mixed.F.kp T.h_law_mixed.b .nil pass0 (pa_cons (pv 1) (pa_cons (pe_op op_add (pe_op op_mul pe_int (pv 4)) pe_int) pa_nil))) pe_int)) pa_nil)))) (pss_cons (ps_set (i := 6) sc_law_rows_by.nd rfl (by first | exact Or.inl rfl | exact Or.inr rfl) (pe_call (ok_law_name_by T) (hr.mono (by decide)) rfl T.h_law_name_by.m T.h_law_name_by.F.kp T.h_law_name_by.b .nil pass0 (pa_cons (pe_call (ok_law_mixed T) (hr.mono (by decide)) rfl T.h_law_mixed.m T.h_law_mixed.F.kp T.h_law_mixed.b .nil pass0 (pa_cons (pv 0) (pa_cons (pv 4) pa_nil))) pa_nil))) (pss_cons (ps_if (pt_cmpR op_gt (pv 2) pe_int (nomark _)) (pss_cons (ps_set (i := 7) sc_law_rows_by.nd rfl (by first | exact Or.inl rfl | exact Or.inr rfl) pe_str) (pss_one (ps_set (i := 6) sc_law_rows_by.nd rfl (by first | exact Or.inl rfl | exact Or.inr rfl) (pe_op op_add_str (pe_op op_add_str (pe_ix ix_str (pv 7) (pe_op op_mod (pv 4) pe_int) (fun _ _ => rfl)) (pe_ix ix_str (pv 7) (pe_op op_fdiv (pv 4) pe_int) (fun _ _ => rfl))) (pe_slice sl_str (pv 6) po_none (po_some pe_int)))))) pss_nil) (pss_one (ps_expr (pe_bm PySem.F.plainAttrs_list PySem.F.slot_list_append PySem.F.type_list_append mt_append (pv 3) (pa_cons (pe_tup (pa_cons (pv 6) (pa_cons (pv 5) pa_nil))) pa_nil)))))))) (pss_one (ps_ret (pv 3))))), ?_⟩
    refine q_asgL (el_lst ea_nil (by decide)) fun l H1 hl e1 h1 => ?_
    refine q_forR1 (n := n) (ea_cons (ev_var rfl) ea_nil) (by omega) (fun i σ' H' => ∃ vs es s4 s5 s6 s7, σ' = [some (.int nm), some (.int sh), some (.int n), some (.ref l), s4, s5, s6, s7] ∧ Ex H H' ∧ H' l = some (.lst vs) ∧ vs.length = i ∧ RowsAt K H' vs es ∧ es.all eOk = true)
      (fun H2 e2 => ⟨[], [], none, none, none, none, rfl, e1.trans e2, e2 _ _ h1, rfl, ⟨rfl, fun i v e h => by simp at h⟩, rfl⟩) ?_ ?_
    · rintro i σ' H' hi ⟨vs, es, s4, s5, s6, s7, rfl, eH, hv, hlen, hR, hE⟩
      refine qx_asg (x_tup (vs := [.int (numBy (mixed sh (2 * (i : Int)))), .int (1 + mixed sh (2 * (i : Int) + 1) % 9)]) (by walk_at "ev")) fun v H2 e2 hv2 => ?_
      obtain ⟨q, rfl, hq0, hq⟩ := hv2
      have m1 := Int.emod_nonneg (mixed sh (2 * (i : Int) + 1)) (by decide : (9 : Int) ≠ 0)
      have m2 := Int.emod_lt_of_pos (mixed sh (2 * (i : Int) + 1)) (by decide : (0 : Int) < 9)
      have hsh : ShAt K H2 (.ref q) true := sh_two (st_of hq) (numBy_bd _) (by unfold BIG; omega)
      refine q_asg (by walk_at "ev") fun H3 e3 => ?_
      have hgood := nameBy_good (mixed nm (i : Int))
      generalize nameBy (mixed nm (i : Int)) = cs at hgood ⊢
      have fin : ∀ (D : Ends) (cs' : List Nat) (s7 : Option V) (H4 : Hp), (∀ σ' H', (∃ vs es s4 s5 s6 s7, σ' = [some (.int nm), some (.int sh), some (.int n), some (.ref l), s4, s5, s6, s7] ∧ Ex H H' ∧ H' l = some (.lst vs) ∧ vs.length = i + 1 ∧ RowsAt K H' vs es ∧ es.all eOk = true) → D.nx σ' H') → GoodN cs' → Ex H3 H4 →
          tDrop (tBM K "list" rAppend (tVar 3) (tCons (tTup (tCons (tVar 6) (tCons (tVar 5) tNil))) tNil)) D [some (.int nm), some (.int sh), some (.int n), some (.ref l), some (.int (i : Int)), some (.ref q), some (.str (ofL cs')), s7] H4 := by
        intro D cs' s7 H4 hD hg e4
        have e24 : Ex H2 H4 := e3.trans e4
        have eH4 : Ex H' H4 := e2.trans e24
        refine s_appU (xs := vs) (eH4 _ _ hv) (ev_var rfl) (eu_tup (ea_cons (ev_var rfl) (ea_cons (ev_var rfl) ea_nil)) (by exact Nat.le_of_ble_eq_true rfl)) (by omega) fun p H5 hp e5 h5 => ?_
        have hl5 : H5 l = some (.lst vs) := e5 _ _ (eH4 _ _ hv)
        have new : RowAt K H5 (.ref p) (.inr (ofL cs'), .ref q, true) := ⟨p, rfl, st_of h5, by show cs'.length ≤ 30000; have := hg.2.1; omega, hsh.mono (e24.trans e5)⟩
        refine hD _ _ ⟨vs ++ [.ref p], es ++ [(.inr (ofL cs'), .ref q, true)], _, _, _, _, rfl, Ex.mut (eH.trans (eH4.trans e5)) hl, upd_same, by rw [List.length_append, hlen]; rfl, ⟨by rw [List.length_append, List.length_append, hR.1]; rfl, ?_⟩, ?_⟩
        · intro j v e hvj hej
          by_cases hj : j < vs.length
          · rw [List.getElem?_append_left hj] at hvj
            rw [List.getElem?_append_left (by rw [← hR.1]; exact hj)] at hej
            exact ((hR.2 j v e hvj hej).mono (eH4.trans e5)).upd hl5
          · rw [List.getElem?_append_right (by omega)] at hvj
            rw [List.getElem?_append_right (by rw [← hR.1]; omega)] at hej
            rw [← hR.1] at hej
            have : j - vs.length = 0 := by
              have := (List.getElem?_eq_some_iff.mp hvj).1
              simp at this
              omega
            rw [this] at hvj hej
            obtain rfl := Option.some.inj hvj
            obtain rfl := Option.some.inj hej
            exact new.upd hl5
        · rw [List.all_append, hE]
          show (true && (eOk _ && true)) = true
          have : eOk (.inr (ofL cs'), .ref q, true) = true := by
            show (nameOk (ofL cs') && true) = true
            rw [good_ok hg]
            rfl
          rw [this]
          rfl
      refine q_when (b := decide (9 < n)) (by walk_at "ev") (fun hb H4 e4 => ?_) (fun hb H4 e4 => ?_)
      · refine q_asg (v := .str (ofL alpha)) (ev_is ev_c (by rw [alpha_str])) fun H5 e5 => ?_
        have ix1 : atI (ofL alpha).cps.toList ((i : Int) % 26) = some (letter (i : Int)) := alpha_ix _
        have ix2 : atI (ofL alpha).cps.toList ((i : Int) / 26) = some (letter ((i : Int) / 26)) := by
          have := alpha_ix ((i : Int) / 26)
          rw [show ((i : Int) / 26) % 26 = (i : Int) / 26 by omega] at this
          exact this
        refine s_asg (v := .str (ofL ([letter (i : Int)] ++ [letter ((i : Int) / 26)] ++ cs.take 6))) ?_ fun H6 e6 => ?_
        · have c1 : Ev (tOp rIxS (tVar 7) (tOp (rI (fun _ j => 0 < j) fun i j => V.int (i % j)) (tVar 4) (tC (V.int 26)))) [some (.int nm), some (.int sh), some (.int n), some (.ref l), some (.int (i : Int)), some (.ref q), some (.str (ofL cs)), some (.str (ofL alpha))] H5 (.str (ofL [letter (i : Int)])) := ev_op (ev_var rfl) (by walk_at "ev") (rv_ixS (by rw [ofL_len]; decide) ix1)
          have c2 : Ev (tOp rIxS (tVar 7) (tOp (rI CDiv fun i j => V.int (i / j)) (tVar 4) (tC (V.int 26)))) [some (.int nm), some (.int sh), some (.int n), some (.ref l), some (.int (i : Int)), some (.ref q), some (.str (ofL cs)), some (.str (ofL alpha))] H5 (.str (ofL [letter ((i : Int) / 26)])) := ev_op (ev_var rfl) (by walk_at "ev") (rv_ixS (by rw [ofL_len]; decide) ix2)
          rw [← ofL_app, ← ofL_app]
          refine ev_op (ev_op c1 c2 (rv_addStr (by rw [ofL_len, ofL_len]; exact Nat.le_of_ble_eq_true rfl))) (ev_slS (n := 6) (ev_var rfl) ev_c (by have := hgood.2.1; omega)) (rv_addStr ?_)
          rw [ofL_app, ofL_len, ofL_len, List.length_take, List.length_append]
          show 1 + 1 + min 6 cs.length ≤ 100000
          omega
        · refine fin _ _ _ H6 (fun _ _ h => h) ⟨by simp, ?_, ?_⟩ (by walk_at "ex")
          · rw [List.length_append, List.length_append, List.length_take]
            show 1 + 1 + min 6 cs.length ≤ 8
            omega
          · intro x hx
            rcases List.mem_append.mp hx with hx | hx
            · rcases List.mem_append.mp hx with hx | hx
              · rw [List.mem_singleton.mp hx]; exact letter_low _
              · rw [List.mem_singleton.mp hx]; exact letter_low _
            · exact hgood.2.2 x (List.mem_of_mem_take hx)
      · exact fin _ _ _ H4 (fun _ _ h => h) hgood e4
    · rintro σ' H' ⟨vs, es, s4, s5, s6, s7, rfl, eH, hv, hlen, hR, hE⟩
      refine s_ret (ev_var rfl) fun H2 e2 => k _ _ (eH.trans e2) ⟨l, vs, es, rfl, hl, e2 _ _ hv, by omega, hR.mono e2, hE⟩
end

section
variable {P : Program} {w : World} {K : PySem.W.Frag} {mg : Str → Option Value} {base : Heap}
theorem key_lit {s : Str} (h : nameOk s = false ∧ s.cps.toList.length ≤ 30000) : ∃ key : Key, V.str s = kV key ∧ KeyLen key ∧ keyOk key = false := ⟨.inr s, rfl, h.2, h.1⟩
abbrev spOddName : Sp := SpF (fun c : Int => [.int c]) (fun _ _ => True) (fun c _ v _ => ∃ key : Key, v = kV key ∧ KeyLen key ∧ keyOk key = decide (3 < c % 6))
theorem ok_law_odd_name (T : Txt K mg) : FnOk P w K mg base CX0 1 T.a_law_odd_name T.d_law_odd_name ["_law_cell"] spOddName := by
  refine T.h_law_odd_name.F.ok sc_law_odd_name (fun vs H Q E h => ?_) (fun cdv A outer s H vs Q E hr h => ?_)
  · obtain ⟨c, rfl, _⟩ := h
    rfl
  · obtain ⟨c, rfl, _, k⟩ := h
    refine ⟨_, (pss_cons (ps_set (i := 1) sc_law_odd_name.nd rfl (by first | exact Or.inl rfl | exact Or.inr rfl) (pe_op op_mod (pv 0) pe_int)) (pss_cons (ps_if (pt_cmpR op_eq (pv 1) pe_int (nomark _)) (pss_one (ps_ret pe_str)) pss_nil) (pss_cons (ps_if (pt_cmpR op_eq (pv 1) pe_int (nomark _)) (pss_one (ps_ret pe_str)) pss_nil) (pss_cons (ps_if (pt_cmpR op_eq (pv 1) pe_int (nomark _)) (pss_one (ps_ret (pe_op op_add_str pe_str (pe_ix ix_str pe_str (pe_op op_mod (pe_op op_fdiv (pv 0) pe_int) pe_int) (fun _ _ => rfl))))) pss_nil) (pss_cons (ps_if (pt_cmpR op_eq (pv 1) pe_int (nomark _)) (pss_one (ps_ret (pe_op op_mod (pe_op op_fdiv (pv 0) pe_int) pe_int))) pss_nil) (pss_one (ps_ret (pe_slice sl_str pe_str po_none (po_some (pe_op op_add pe_int (pe_op op_mod (pe_op op_fdiv (pv 0) pe_int) pe_int))))))))))), ?_⟩
    refine q_asg (by walk_at "ev") fun H1 e1 => ?_
    refine q_when (by walk_at "ev") (fun hb H2 e2 => ?_) (fun hb0 H2 e2 => ?_)
    · have hb := V.int.inj (of_decide_eq_true hb)
      refine s_ret ev_c fun H3 e3 => k _ _ (by walk_at "ex") ?_
      show ∃ key : Key, _ = kV key ∧ KeyLen key ∧ keyOk key = decide (3 < c % 6)
      rw [show decide (3 < c % 6) = false from decide_eq_false (by omega)]
      exact key_lit ⟨by decide +kernel, by decide +kernel⟩
    refine q_when (by walk_at "ev") (fun hb H3 e3 => ?_) (fun hb1 H3 e3 => ?_)
    · have hb := V.int.inj (of_decide_eq_true hb)
      refine s_ret ev_c fun H4 e4 => k _ _ (by walk_at "ex") ?_
      show ∃ key : Key, _ = kV key ∧ KeyLen key ∧ keyOk key = decide (3 < c % 6)
      rw [show decide (3 < c % 6) = false from decide_eq_false (by omega)]
      exact key_lit ⟨by decide +kernel, by decide +kernel⟩
    refine q_when (by walk_at "ev") (fun hb H4 e4 => ?_) (fun hb2 H4 e4 => ?_)
    · have hb := V.int.inj (of_decide_eq_true hb)
      have h1 := Int.emod_nonneg (c / 6) (by decide : (4 : Int) ≠ 0)
      have h2 := Int.emod_lt_of_pos (c / 6) (by decide : (0 : Int) < 4)
      have ix : ∃ x : Nat, x ∈ ([32, 65, 49, 45] : List Nat) ∧ atI (Str.ofString " A1-").cps.toList (c / 6 % 4) = some x := by
        have e : (Str.ofString " A1-").cps.toList = [32, 65, 49, 45] := by decide +kernel
        rw [e]
        have hh : c / 6 % 4 = 0 ∨ c / 6 % 4 = 1 ∨ c / 6 % 4 = 2 ∨ c / 6 % 4 = 3 := by omega
        rcases hh with h | h | h | h <;> rw [h]
        · exact ⟨32, by decide, rfl⟩
        · exact ⟨65, by decide, rfl⟩
        · exact ⟨49, by decide, rfl⟩
        · exact ⟨45, by decide, rfl⟩
      obtain ⟨x, hx, hix⟩ := ix
      refine s_ret (ev_op ev_c (ev_op ev_c (by walk_at "ev") (rv_ixS (by decide +kernel) hix)) (rv_addStr (by
        have e2 : (Str.ofString "ab").length = 2 := by decide +kernel
        rw [e2]
        exact Nat.le_of_ble_eq_true rfl))) fun H5 e5 => k _ _ (by walk_at "ex") ?_
      show ∃ key : Key, _ = kV key ∧ KeyLen key ∧ keyOk key = decide (3 < c % 6)
      rw [show decide (3 < c % 6) = false from decide_eq_false (by omega)]
      refine key_lit ?_
      simp only [List.mem_cons, List.not_mem_nil, or_false] at hx
      rcases hx with rfl | rfl | rfl | rfl <;> exact ⟨by decide +kernel, by decide +kernel⟩
    refine q_when (by walk_at "ev") (fun hb H5 e5 => ?_) (fun hb3 H5 e5 => ?_)
    · have hb := V.int.inj (of_decide_eq_true hb)
      refine s_ret (v := .int (c / 6 % 9)) (by walk_at "ev") fun H6 e6 => k _ _ (by walk_at "ex") ⟨.inl (c / 6 % 9), rfl, trivial, ?_⟩
      rw [show decide (3 < c % 6) = false from decide_eq_false (by omega)]
      rfl
    · have n0 : ¬ c % 6 = 0 := fun z => of_decide_eq_false hb0 (congrArg V.int z)
      have n1 : ¬ c % 6 = 1 := fun z => of_decide_eq_false hb1 (congrArg V.int z)
      have n2 : ¬ c % 6 = 2 := fun z => of_decide_eq_false hb2 (congrArg V.int z)
      have n3 : ¬ c % 6 = 3 := fun z => of_decide_eq_false hb3 (congrArg V.int z)
      have h1 := Int.emod_nonneg (c / 6) (by decide : (8 : Int) ≠ 0)
      have h2 := Int.emod_lt_of_pos (c / 6) (by decide : (0 : Int) < 8)
      have e8 : Str.ofString "abcdefgh" = ofL [97, 98, 99, 100, 101, 102, 103, 104] := by decide +kernel
      have en : (((1 + c / 6 % 8).toNat : Nat) : Int) = 1 + c / 6 % 8 := by omega
      refine s_ret (v := .str (ofL (List.take (1 + c / 6 % 8).toNat [97, 98, 99, 100, 101, 102, 103, 104]))) (ev_slS (by rw [← e8]; exact ev_c) (by rw [en]; walk_at "ev") (by decide)) fun H6 e6 => k _ _ (by walk_at "ex") ⟨.inr _, rfl, ?_, ?_⟩
      · show (List.take _ _).length ≤ 30000
        rw [List.length_take]
        show min _ 8 ≤ 30000
        omega
      · rw [show decide (3 < c % 6) = true from decide_eq_true (by have := Int.emod_nonneg c (by decide : (6 : Int) ≠ 0); omega)]
        refine good_ok ⟨?_, ?_, fun x hx => ?_⟩
        · rw [List.length_take]
          show 1 ≤ min _ 8
          omega
        · rw [List.length_take]
          show min _ 8 ≤ 8
          omega
        · have := List.mem_of_mem_take hx
          simp only [List.mem_cons, List.not_mem_nil, or_false] at this
          unfold lowC'
          omega
def ShN (K : PySem.W.Frag) : VP := fun v H => ShAt K H v false
instance : Mono (ShN K) := ⟨fun e h => h.mono e⟩
theorem shn_tup {H0 H1 : Hp} {v : V} {xs : List V} (hf : xs.all flat3 = true) (hl : xs.length ≤ 1000) (hb : (shOk0 xs && !decide (xs = [.int 0, .int 0])) = false) (h : Nw H0 (.tup xs) v H1) : ShN K v H1 := by
  obtain ⟨p, hv, _, h⟩ := h
  exact .inl ⟨p, xs, hv, st_of h, hf, hl, hb.symm⟩
abbrev spOddShare (K : PySem.W.Frag) : Sp := SpF (fun c : Int => [.int c]) (fun _ _ => True) (fun _ _ => ShN K)
theorem ok_law_odd_share (T : Txt K mg) : FnOk P w K mg base CX0 1 T.a_law_odd_share T.d_law_odd_share ["_law_cell"] (spOddShare K) := by
  refine T.h_law_odd_share.F.ok sc_law_odd_share (fun vs H Q E h => ?_) (fun cdv A outer s H vs Q E hr h => ?_)
  · obtain ⟨c, rfl, _⟩ := h
    rfl
  · obtain ⟨c, rfl, _, k⟩ := h
    refine ⟨_, (pss_cons (ps_set (i := 1) sc_law_odd_share.nd rfl (by first | exact Or.inl rfl | exact Or.inr rfl) (pe_op op_mod (pe_op op_fdiv (pv 0) pe_int) pe_int)) (pss_cons (ps_set (i := 2) sc_law_odd_share.nd rfl (by first | exact Or.inl rfl | exact Or.inr rfl) (pe_lst (pa_cons (pe_lst (pa_cons (pv 1) (pa_cons pe_int pa_nil))) (pa_cons (pe_tup (pa_cons (pv 1) pa_nil)) (pa_cons (pe_tup (pa_cons (pv 1) (pa_cons pe_int (pa_cons pe_int pa_nil)))) (pa_cons (pe_tup (pa_cons (pe_op op_sub (pv 1) pe_int) (pa_cons pe_int pa_nil))) (pa_cons (pe_tup (pa_cons pe_int (pa_cons (pe_op op_sub (pv 1) pe_int) pa_nil))) (pa_cons (pe_tup (pa_cons (pe_op op_add (pe_op op_pow pe_int pe_int) (pv 1)) (pa_cons pe_int pa_nil))) (pa_cons (pe_tup (pa_cons pe_int (pa_cons (pe_op op_add (pe_op op_pow pe_int pe_int) (pv 1)) pa_nil))) pa_nil))))))))) (pss_cons (ps_set (i := 2) sc_law_odd_share.nd rfl (by first | exact Or.inl rfl | exact Or.inr rfl) (pe_op op_cat (pv 2) (pe_lst (pa_cons (pe_tup (pa_cons pe_bl (pa_cons (pv 1) pa_nil))) (pa_cons (pe_tup (pa_cons (pv 1) (pa_cons pe_str pa_nil))) (pa_cons (pe_tup (pa_cons pe_int (pa_cons pe_int pa_nil))) (pa_cons (pv 1) (pa_cons (pe_tup (pa_cons (pv 1) (pa_cons pe_bl pa_nil))) (pa_cons (pe_tup (pa_cons pe_int (pa_cons pe_bl pa_nil))) (pa_cons (pe_tup (pa_cons pe_str (pa_cons (pv 1) pa_nil))) (pa_cons (pe_tup (pa_cons pe_non (pa_cons (pv 1) pa_nil))) pa_nil))))))))))) (pss_one (ps_ret (pe_ix ix_list (pv 2) (pe_op op_mod (pv 0) pe_int) (fun _ _ => rfl))))))), ?_⟩
    refine q_asg (by walk_at "ev") fun H1 e1 => ?_
    have f1 := Int.emod_nonneg (c / 15) (by decide : (5 : Int) ≠ 0)
    have f2 := Int.emod_lt_of_pos (c / 15) (by decide : (0 : Int) < 5)
    generalize c / 15 % 5 = far at f1 f2
    refine qx_asg (x_lstA (P := ShN K) (n := 7) ?_ (by decide)) fun v H2 e2 hv => ?_
    · refine axA_cons ((x_lst (vs := [.int far, .int 1]) (by walk_at "ev")).imp fun v H e ⟨p, hv, _, h⟩ => .inr ⟨"list", by rw [hv]; exact .base (.lst h), by decide +kernel, rfl, .inr ⟨p, hv⟩⟩) ?_
      refine axA_cons ((x_tup (vs := [.int far]) (by walk_at "ev")).imp fun v H e h => shn_tup rfl (Nat.le_of_ble_eq_true rfl) (by simp [shOk0]) h) ?_
      refine axA_cons ((x_tup (vs := [.int far, .int 1, .int 1]) (by walk_at "ev")).imp fun v H e h => shn_tup rfl (Nat.le_of_ble_eq_true rfl) (by simp [shOk0]) h) ?_
      refine axA_cons ((x_tup (vs := [.int (far - 5), .int 9]) (by walk_at "ev")).imp fun v H e h => shn_tup rfl (Nat.le_of_ble_eq_true rfl) (by simp [shOk0, numOk]; omega) h) ?_
      refine axA_cons ((x_tup (vs := [.int 9, .int (far - 5)]) (by walk_at "ev")).imp fun v H e h => shn_tup rfl (Nat.le_of_ble_eq_true rfl) (by simp [shOk0, numOk]; omega) h) ?_
      refine axA_cons ((x_tup (vs := [.int (BIG + far), .int 0]) (ea_cons (ev_is (by walk_at "ev") (by rw [big_eq])) (by walk_at "ev"))).imp fun v H e h => shn_tup rfl (Nat.le_of_ble_eq_true rfl) (by unfold BIG; simp [shOk0, numOk]; omega) h) ?_
      refine axA_cons ((x_tup (vs := [.int 0, .int (BIG + far)]) (ea_cons ev_c (ea_cons (ev_is (by walk_at "ev") (by rw [big_eq])) ea_nil))).imp fun v H e h => shn_tup rfl (Nat.le_of_ble_eq_true rfl) (by unfold BIG; simp [shOk0, numOk]; omega) h) ?_
      exact axA_nil
    obtain ⟨p, ts, rfl, hp0, hp, hts⟩ := hv
    have hp1 : H1 p = none := hp0
    have second : EvX (tLst (tCons (tTup (tCons (tC (.bl true)) (tCons (tVar 1) tNil))) (tCons (tTup (tCons (tVar 1) (tCons (tC (.str "1")) tNil))) (tCons (tTup (tCons (tC (.int 0)) (tCons (tC (.int 0)) tNil))) (tCons (tVar 1) (tCons (tTup (tCons (tVar 1) (tCons (tC (.bl true)) tNil))) (tCons (tTup (tCons (tC (.int 5)) (tCons (tC (.bl false)) tNil))) (tCons (tTup (tCons (tC (.str "1")) (tCons (tVar 1) tNil))) (tCons (tTup (tCons (tC .non) (tCons (tVar 1) tNil))) tNil)))))))))
        [some (.int c), some (.int far), some (.ref p)] H2 (fun v H3 => ∃ p vs, v = .ref p ∧ H2 p = none ∧ H3 p = some (.lst vs) ∧ AllP (ShN K) 8 vs H3) := by
      refine x_lstA ?_ (by decide)
      refine axA_cons ((x_tup (vs := [.bl true, .int far]) (by walk_at "ev")).imp fun v H e h => shn_tup rfl (Nat.le_of_ble_eq_true rfl) (by simp [shOk0, numOk]) h) ?_
      refine axA_cons ((x_tup (vs := [.int far, .str "1"]) (by walk_at "ev")).imp fun v H e h => shn_tup rfl (Nat.le_of_ble_eq_true rfl) (by simp [shOk0, numOk]) h) ?_
      refine axA_cons ((x_tup (vs := [.int 0, .int 0]) (by walk_at "ev")).imp fun v H e h => shn_tup rfl (Nat.le_of_ble_eq_true rfl) (by simp) h) ?_
      refine axA_cons (x_is (ev_var rfl) fun _ _ => .inr ⟨"int", .base (.int far), by decide +kernel, rfl, .inl rfl⟩) ?_
      refine axA_cons ((x_tup (vs := [.int far, .bl true]) (by walk_at "ev")).imp fun v H e h => shn_tup rfl (Nat.le_of_ble_eq_true rfl) (by simp [shOk0, numOk]) h) ?_
      refine axA_cons ((x_tup (vs := [.int 5, .bl false]) (by walk_at "ev")).imp fun v H e h => shn_tup rfl (Nat.le_of_ble_eq_true rfl) (by simp [shOk0, numOk]) h) ?_
      refine axA_cons ((x_tup (vs := [.str "1", .int far]) (by walk_at "ev")).imp fun v H e h => shn_tup rfl (Nat.le_of_ble_eq_true rfl) (by simp [shOk0, numOk]) h) ?_
      refine axA_cons ((x_tup (vs := [.non, .int far]) (by walk_at "ev")).imp fun v H e h => shn_tup rfl (Nat.le_of_ble_eq_true rfl) (by simp [shOk0, numOk]) h) ?_
      exact axA_nil
    refine qx_asg (P := fun v H3 => ∃ p vs, v = .ref p ∧ H3 p = some (.lst vs) ∧ AllP (ShN K) 15 vs H3) ?_ fun v H3 e3 hv => ?_
    · intro G eG Q' q'
      refine ev_var (v := .ref p) rfl G eG _ fun G2 eG2 => ?_
      refine second G2 (eG.trans eG2) _ fun v2 G3 eG3 hv2 => ?_
      obtain ⟨p', vs', rfl, hp', h3', h4'⟩ := hv2
      refine ⟨p, p', ts, vs', rfl, rfl, eG3 _ _ (eG2 _ _ (eG _ _ hp)), h3', sz_of (by rw [hts.1, h4'.1]; decide), fun r hr => q' _ _ ((eG2.trans eG3).trans (Ex.new hr)) ⟨r, ts ++ vs', rfl, upd_same, by rw [List.length_append, hts.1, h4'.1], fun u hu => ?_⟩⟩
      rcases List.mem_append.mp hu with hu | hu
      · exact Mono.mono (((eG.trans eG2).trans eG3).trans (Ex.new hr)) (hts.2 u hu)
      · exact Mono.mono (Ex.new hr) (h4'.2 u hu)
    obtain ⟨p2, us, rfl, hp2, hus⟩ := hv
    have i1 := Int.emod_nonneg c (by decide : (15 : Int) ≠ 0)
    have i2 := Int.emod_lt_of_pos c (by decide : (0 : Int) < 15)
    have hlt : (c % 15).toNat < us.length := by have := hus.1; omega
    have hget : us[(c % 15).toNat]? = some us[(c % 15).toNat] := List.getElem?_eq_getElem hlt
    have e0 : (((c % 15).toNat : Nat) : Int) = c % 15 := by omega
    refine s_ret (v := us[(c % 15).toNat]) (ev_op (y := .int (c % 15)) (ev_var rfl) (by walk_at "ev") (rv_ixL (xs := us) (sq_of hp2) (atI_of i1 hget))) fun H4 e4 => k _ _ (by walk_at "ex") (Mono.mono e4 (hus.2 _ (List.getElem_mem hlt)))
end

/-! ### the page that is built -/
section
theorem putK_len {kvs : List (Key × V)} {k : Key} {v : V} : (putK kvs k v).length ≤ kvs.length + 1 := by
  unfold putK
  split
  · rw [List.length_map]; omega
  · rw [List.length_append]; simp
theorem putK_nd {kvs : List (Key × V)} {k : Key} {v : V} (h : (kvs.map (·.1)).Nodup) : ((putK kvs k v).map (·.1)).Nodup := by
  cases e : valV kvs k with
  | none => exact nd_putK v h e
  | some u =>
    have he : (kvs.any fun kv => decide (kv.1 = k)) = true := by
      rw [valV_any, e]
      rfl
    unfold putK
    rw [if_pos he, List.map_map]
    have : ((fun x : Key × V => x.1) ∘ fun kv : Key × V => if kv.1 = k then (kv.1, v) else kv) = fun x => x.1 := by
      funext x
      show (if x.1 = k then (x.1, v) else x).1 = x.1
      split <;> rfl
    rw [this]
    exact h
theorem putK_full {kvs : List (Key × V)} {k : Key} {v : V} (h : (putK kvs k v).length = kvs.length + 1) : putK kvs k v = kvs ++ [(k, v)] := by
  unfold putK at h ⊢
  split
  · rename_i e
    rw [if_pos e, List.length_map] at h
    omega
  · rfl
end
section
variable {X : Cx}
/-- == and != of two dicts with the same pairs: values alike in place or plain -/
theorem hits_same {A : Around} {s : Shared} {kvs : List (Key × V)} {vb : List (Key × Value)} (rb : KV kvs vb) {ks : List (Key × V)} {va : List (Key × Value)} (ra : KV ks va) :
    (∀ p ∈ ks, valV kvs p.1 = some p.2 ∧ (flatB p.2 = true ∨ ∃ a, p.2 = .ref a)) → PySem.W.KeqHits A s vb va true := by
  unfold KV at ra
  induction ra with
  | nil => intro _; exact .nil
  | @cons p q ps qs h t ih =>
    intro hp
    obtain ⟨h1, h2⟩ := h
    obtain ⟨e, f⟩ := hp p List.mem_cons_self
    have rr : RelO (some p.2) (PySem.valueAt vb p.1) := by rw [← e]; exact rb.val p.1
    obtain ⟨y, hy, ry⟩ := rr.some_of
    obtain ⟨k, v⟩ := q
    have h1' : p.1 = k := h1
    rw [h1'] at hy
    show PySem.W.KeqHits A s vb ((k, v) :: qs) (true && true)
    refine .hit hy ?_ (ih fun p' hm => hp p' (List.mem_cons_of_mem _ hm))
    rcases f with f | ⟨a, f⟩
    · exact eqAt_same h2 ry f
    · rw [f] at h2 ry
      cases (show v = Value.ref a from h2)
      cases (show y = Value.ref a from ry)
      exact SeqAt.EqAt.same _
def rDictSame (r : Bool) : R2 := fun x y H Q => ∃ a b ks ls, x = .ref a ∧ y = .ref b ∧ H a = some (.dK ks) ∧ H b = some (.dK ls) ∧
  ((ks.length = ls.length ∧ (∀ p ∈ ks, valV ls p.1 = some p.2 ∧ (flatB p.2 = true ∨ ∃ a, p.2 = .ref a)) ∧ Q (.bl r) H) ∨ (ks.length ≠ ls.length ∧ Q (.bl (!r)) H))
theorem gc_ne_dict (hu : X.A.units < cLine) : OpR X (compareOp .NotEq) (rDictSame false) := by
  intro pins s σ H x y v u Q I rx ry h
  obtain ⟨a, b, ks, ls, rfl, rfl, ea, eb, h⟩ := h
  obtain rfl : v = Value.ref a := rx
  obtain rfl : u = Value.ref b := ry
  obtain ⟨_, ya, va, ra, da⟩ := (show ObjOk X.prog X.w H s.heap a (.dK ks) from I.hok a _ ea)
  obtain ⟨_, yb, vb, rb, db⟩ := (show ObjOk X.prog X.w H s.heap b (.dK ls) from I.hok b _ eb)
  have l1 := ra.length
  have l2 := rb.length
  rcases h with ⟨hlen, hp, q⟩ | ⟨hlen, q⟩
  · have hl : va.length = vb.length := by rw [← l1, ← l2]; exact hlen
    exact PySem.W.keq_ne (knd := mixKind X.prog X.w) (r := true) ya yb da db hu (fun _ => hits_same rb ra hp) (fin_bl I q (by simp [hl]))
  · have hl : va.length ≠ vb.length := by rw [← l1, ← l2]; exact hlen
    exact PySem.W.keq_ne (knd := mixKind X.prog X.w) (r := true) ya yb da db hu (fun z => absurd z hl) (fin_bl I q (by simp [hl]))
theorem gc_eq_dict (hu : X.A.units < cLine) : OpR X (compareOp .Eq) (rDictSame true) := by
  intro pins s σ H x y v u Q I rx ry h
  obtain ⟨a, b, ks, ls, rfl, rfl, ea, eb, h⟩ := h
  obtain rfl : v = Value.ref a := rx
  obtain rfl : u = Value.ref b := ry
  obtain ⟨_, ya, va, ra, da⟩ := (show ObjOk X.prog X.w H s.heap a (.dK ks) from I.hok a _ ea)
  obtain ⟨_, yb, vb, rb, db⟩ := (show ObjOk X.prog X.w H s.heap b (.dK ls) from I.hok b _ eb)
  have l1 := ra.length
  have l2 := rb.length
  rcases h with ⟨hlen, hp, q⟩ | ⟨hlen, q⟩
  · have hl : va.length = vb.length := by rw [← l1, ← l2]; exact hlen
    exact PySem.W.keq_eq (knd := mixKind X.prog X.w) (r := true) ya yb da db hu (fun _ => hits_same rb ra hp) (fin_bl I q (by simp [hl]))
  · have hl : va.length ≠ vb.length := by rw [← l1, ← l2]; exact hlen
    exact PySem.W.keq_eq (knd := mixKind X.prog X.w) (r := true) ya yb da db hu (fun z => absurd z hl) (fin_bl I q (by simp [hl]))
end
section
variable {K : PySem.W.Frag} {σ : L2.St} {H H' : Hp} {ta tb te td tk tv : TE} {x y v : V}
def rDictCopy : List V → Hp → VK → Prop := fun xs H Q => ∃ (a : Addr) (kvs : List (Key × V)), xs = [.ref a] ∧ Rd H a (.dK kvs) ∧ ∀ p, H p = none → Q (.ref p) (upd H p (.dK kvs))
theorem x_dcopy {a : Addr} {kvs : List (Key × V)} (h : Ev ta σ H (.ref a)) (hd : H a = some (.dK kvs)) : EvX (tCB rDictCopy (tCons ta tNil)) σ H (Nw H (.dK kvs)) := fun H1 e Q q =>
  h H1 e _ fun H2 e2 => ⟨a, kvs, rfl, .inl (e2 _ _ (e _ _ hd)), fun p hp => q _ _ (e2.trans (Ex.new hp)) ⟨p, rfl, fresh_back e (fresh_back e2 hp), upd_same⟩⟩
end
section
variable {K : PySem.W.Frag} {σ : L2.St} {H H' : Hp} {ta tb te td tk tv : TE} {x y v : V} {D : Ends} {tz : TS} {P P1 P2 : VP}
theorem x_tup2X [Mono P1] [Mono P2] (h1 : EvX ta σ H P1) (h2 : EvX tb σ H P2) : EvX (tTup (tCons ta (tCons tb tNil))) σ H (fun v H2 => ∃ p a b, v = .ref p ∧ H p = none ∧ H2 p = some (.tup [a, b]) ∧ P1 a H2 ∧ P2 b H2) := fun H1 e Q q =>
  h1 H1 e _ fun a H2 e2 ha => h2 H2 (e.trans e2) _ fun b H3 e3 hb => ⟨Nat.le_of_ble_eq_true rfl, fun p hp => q _ _ ((e2.trans e3).trans (Ex.new hp)) ⟨p, a, b, rfl, fresh_back e (fresh_back (e2.trans e3) hp), upd_same, Mono.mono (e3.trans (Ex.new hp)) ha, Mono.mono (Ex.new hp) hb⟩⟩
theorem qx_setL {l : Addr} {xs : List V} {j : Nat} (hl : H l = some (.lst xs)) (h : EvX te σ H P) (ho : Ev ta σ H (.ref l)) (hi : Ev tb σ H (.int (j : Int))) (hj : j < xs.length) (hm : ∀ v H1 H2, Ex H1 H2 → P v H1 → P v H2) (k : ∀ v H1, Ex H H1 → P v H1 → tz D σ (upd H1 l (.lst (xs.set j v)))) :
    tSeq (tAsg te (gSub ta tb rSetL)) tz D σ H := h H (Ex.refl H) _ fun v H1 e1 hv => ho H1 e1 _ fun H2 e2 => hi H2 (e1.trans e2) _ fun H3 e3 =>
  ⟨l, xs, (j : Int), j, rfl, rfl, ((e1.trans e2).trans e3) l _ hl, ixN_nat hj, k v H3 ((e1.trans e2).trans e3) (hm v H1 H3 (e2.trans e3) hv)⟩
theorem s_dput {d : Addr} {kvs : List (Key × V)} {k : Key} (hv : Ev tv σ H v) (hd : Ev td σ H (.ref d)) (hk : Ev tk σ H (kV k)) (h : H d = some (.dK kvs)) (hl : kvs.length < 100000) (c : ∀ H1, Ex H H1 → D.nx σ (upd H1 d (.dK (putK kvs k v)))) : sDPut td tk tv D σ H :=
  hv H (Ex.refl H) _ fun H1 e1 => hd H1 e1 _ fun H2 e2 => hk H2 (e1.trans e2) _ fun H3 e3 => ⟨d, _, rfl, DPut.k (((e1.trans e2).trans e3) _ _ h) (sz_lt hl), c H3 ((e1.trans e2).trans e3)⟩
theorem rv_neDict {a b : Addr} {ks ls : List (Key × V)} (h1 : H a = some (.dK ks)) (h2 : H b = some (.dK ls)) (hl : ks.length = ls.length) (hp : ∀ p ∈ ks, valV ls p.1 = some p.2 ∧ (flatB p.2 = true ∨ ∃ a, p.2 = .ref a)) : RV (rDictSame false) (.ref a) (.ref b) H (.bl false) := fun H1 e _ q =>
  ⟨a, b, ks, ls, rfl, rfl, e _ _ h1, e _ _ h2, .inl ⟨hl, hp, q H1 (Ex.refl H1)⟩⟩
end
theorem all_set {α : Type} {f : α → Bool} : ∀ {l : List α} {j : Nat} {x : α}, l.all f = true → j < l.length → (l.set j x).all f = f x
  | [], j, x, _, h => by simp at h
  | a :: r, 0, x, h, _ => by
    simp only [List.all_cons, Bool.and_eq_true] at h
    simp [h.2]
  | a :: r, j + 1, x, h, hj => by
    simp only [List.all_cons, Bool.and_eq_true] at h
    have := all_set (l := r) (j := j) (x := x) h.2 (by simpa using hj)
    simp [h.1, this]
section
variable {P : Program} {w : World} {K : PySem.W.Frag} {mg : Str → Option Value} {base : Heap}
theorem x_rows {σ : L2.St} {H : Hp} {ta tb tc : TE} {E : XK} {a b n : Int} (h1 : Ev ta σ H (.int a)) (h2 : Ev tb σ H (.int b)) (h3 : Ev tc σ H (.int n)) (hn : 0 ≤ n ∧ n ≤ 201) :
    EvX (tCall (spRows K) [] E (tCons ta (tCons tb (tCons tc tNil)))) σ H (fun v H2 => ∃ p vs es, v = .ref p ∧ H p = none ∧ H2 p = some (.lst vs) ∧ (vs.length : Int) = n ∧ RowsAt K H2 vs es ∧ es.all eOk = true) := fun H1 e Q q =>
  (ea_cons h1 (ea_cons h2 (ea_cons h3 ea_nil))) H1 e _ fun H2 e2 => ⟨(a, b, n), rfl, hn, fun v H3 e3 ⟨p, vs, es, hv, hp, h⟩ => q v H3 (e2.trans e3) ⟨p, vs, es, hv, fresh_back (e.trans e2) hp, h⟩⟩
theorem x_oddName {σ : L2.St} {H : Hp} {ta : TE} {E : XK} {c : Int} (h1 : Ev ta σ H (.int c)) : EvX (tCall spOddName [] E (tCons ta tNil)) σ H (fun v _ => ∃ key : Key, v = kV key ∧ KeyLen key ∧ keyOk key = decide (3 < c % 6)) := fun H1 e Q q =>
  (ea_cons h1 ea_nil) H1 e _ fun H2 e2 => ⟨c, rfl, trivial, fun v H3 e3 hv => q v H3 (e2.trans e3) hv⟩
theorem x_oddShare {σ : L2.St} {H : Hp} {ta : TE} {E : XK} {c : Int} (h1 : Ev ta σ H (.int c)) : EvX (tCall (spOddShare K) [] E (tCons ta tNil)) σ H (ShN K) := fun H1 e Q q =>
  (ea_cons h1 ea_nil) H1 e _ fun H2 e2 => ⟨c, rfl, trivial, fun v H3 e3 hv => q v H3 (e2.trans e3) hv⟩
theorem ok_law (T : Txt K mg) : FnOk P w K mg base CX0 5 T.a_law T.d_law ["_law_script"] (spLaw K) := by
  refine T.h_law.F.ok sc_law (fun vs H Q E h => ?_) (fun cdv A outer s H vs Q E hr h => ?_)
  · obtain ⟨a, ns, rfl, _⟩ := h
    rfl
  · obtain ⟨l, ns, rfl, hl, _, k⟩ := h
    refine ⟨_, (pss_cons (ps_set (i := 1) sc_law.nd rfl (by first | exact Or.inl rfl | exact Or.inr rfl) (pe_op op_mod (pe_call (ok_law_cell_at T) (hr.mono (by decide)) rfl T.h_law_cell_at.m T.h_law_cell_at.F.kp T.h_law_cell_at.b .nil pass0 (pa_cons (pv 0) (pa_cons pe_int pa_nil))) pe_int)) (pss_cut (ps_if (pt_cmpR op_eq (pe_op op_mod (pe_op op_fdiv (pe_call (ok_law_cell_at T) (hr.mono (by decide)) rfl T.h_law_cell_at.m T.h_law_cell_at.F.kp T.h_law_cell_at.b .nil pass0 (pa_cons (pv 0) (pa_cons pe_int pa_nil))) pe_int) pe_int) pe_int (nomark _)) (pss_one (ps_set (i := 1) sc_law.nd rfl (by first | exact Or.inl rfl | exact Or.inr rfl) (pe_op op_add pe_int (pe_op op_mod (pe_op op_fdiv (pe_call (ok_law_cell_at T) (hr.mono (by decide)) rfl T.h_law_cell_at.m T.h_law_cell_at.F.kp T.h_law_cell_at.b .nil pass0 (pa_cons (pv 0) (pa_cons pe_int pa_nil))) pe_int) pe_int)))) pss_nil) (pss_cons (ps_set (i := 2) sc_law.nd rfl (by first | exact Or.inl rfl | exact Or.inr rfl) (pe_call (ok_law_rows_by T) (hr.mono (by decide)) rfl T.h_law_rows_by.m T.h_law_rows_by.F.kp T.h_law_rows_by.b .nil pass0 (pa_cons (pe_call (ok_law_cell_at T) (hr.mono (by decide)) rfl T.h_law_cell_at.m T.h_law_cell_at.F.kp T.h_law_cell_at.b .nil pass0 (pa_cons (pv 0) (pa_cons pe_int pa_nil))) (pa_cons (pe_call (ok_law_cell_at T) (hr.mono (by decide)) rfl T.h_law_cell_at.m T.h_law_cell_at.F.kp T.h_law_cell_at.b .nil pass0 (pa_cons (pv 0) (pa_cons pe_int pa_nil))) (pa_cons (pv 1) pa_nil))))) (pss_cons (ps_set (i := 3) sc_law.nd rfl (by first | exact Or.inl rfl | exact Or.inr rfl) (pe_call (ok_law_cell_at T) (hr.mono (by decide)) rfl T.h_law_cell_at.m T.h_law_cell_at.F.kp T.h_law_cell_at.b .nil pass0 (pa_cons (pv 0) (pa_cons pe_int pa_nil)))) (pss_cons (ps_set (i := 4) sc_law.nd rfl (by first | exact Or.inl rfl | exact Or.inr rfl) (pe_cmpR op_lt (pv 1) pe_int (nomark _))) (pss_cut (ps_if (PW.pt (pw_and (pt_cmpR op_gt (pv 1) pe_int (nomark _)) (pw_and1 (pt_cmpR op_gt (pe_op op_mod (pv 3) pe_int) pe_int (nomark _))))) (pss_cons (ps_set (i := 5) sc_law.nd rfl (by first | exact Or.inl rfl | exact Or.inr rfl) (pe_op op_mod (pe_op op_fdiv (pv 3) pe_int) (pv 1))) (pss_one (ps_if (pt_cmpR op_eq (pe_op op_mod (pv 3) pe_int) pe_int (nomark _)) (pss_cons (ps_asg (pe_tup (pa_cons (pe_call (ok_law_odd_name T) (hr.mono (by decide)) rfl T.h_law_odd_name.m T.h_law_odd_name.F.kp T.h_law_odd_name.b .nil pass0 (pa_cons (pe_call (ok_law_cell_at T) (hr.mono (by decide)) rfl T.h_law_cell_at.m T.h_law_cell_at.F.kp T.h_law_cell_at.b .nil pass0 (pa_cons (pv 0) (pa_cons pe_int pa_nil))) pa_nil)) (pa_cons (pe_ix ix_tup (pe_ix ix_list (pv 2) (pv 5) (fun _ _ => rfl)) pe_int (fun _ _ => rfl)) pa_nil))) (pg_sub (pv 2) (pv 5) set_list)) (pss_one (ps_set (i := 4) sc_law.nd rfl (by first | exact Or.inl rfl | exact Or.inr rfl) (pe_and (pv 4) (pe_one (pe_cmpR op_gt (pe_op op_mod (pe_call (ok_law_cell_at T) (hr.mono (by decide)) rfl T.h_law_cell_at.m T.h_law_cell_at.F.kp T.h_law_cell_at.b .nil pass0 (pa_cons (pv 0) (pa_cons pe_int pa_nil))) pe_int) pe_int (nomark _))))))) (pss_cons (ps_asg (pe_tup (pa_cons (pe_ix ix_tup (pe_ix ix_list (pv 2) (pv 5) (fun _ _ => rfl)) pe_int (fun _ _ => rfl)) (pa_cons (pe_call (ok_law_odd_share T) (hr.mono (by decide)) rfl T.h_law_odd_share.m T.h_law_odd_share.F.kp T.h_law_odd_share.b .nil pass0 (pa_cons (pe_call (ok_law_cell_at T) (hr.mono (by decide)) rfl T.h_law_cell_at.m T.h_law_cell_at.F.kp T.h_law_cell_at.b .nil pass0 (pa_cons (pv 0) (pa_cons pe_int pa_nil))) pa_nil)) pa_nil))) (pg_sub (pv 2) (pv 5) set_list)) (pss_one (ps_set (i := 4) sc_law.nd rfl (by first | exact Or.inl rfl | exact Or.inr rfl) pe_bl)))))) pss_nil) (pss_cons (ps_set (i := 6) sc_law.nd rfl (by first | exact Or.inl rfl | exact Or.inr rfl) pe_dnewK) (pss_cons (ps_for PassesOwn.never rfl (pi_list (pv 2)) (pg_name (i := 7) sc_law.nd rfl (by first | exact Or.inl rfl | exact Or.inr rfl)) (pss_one (ps_dput (hu_of hr) (pv 6) (pe_ix ix_tup (pv 7) pe_int (fun _ _ => rfl)) (pe_ix ix_tup (pv 7) pe_int (fun _ _ => rfl)) rfl))) (pss_cons (ps_if (pt_cmpR op_lt (pe_callB call_lenD (by rfl) T.n_len PySem.boot_len (pa_cons (pv 6) pa_nil)) (pe_callB call_len_seq (by rfl) T.n_len PySem.boot_len (pa_cons (pv 2) pa_nil)) (nomark _)) (pss_one (ps_ret pe_bl)) pss_nil) (pss_cons (ps_set (i := 8) sc_law.nd rfl (by first | exact Or.inl rfl | exact Or.inr rfl) (pe_callTy call_dictD (by rfl) T.n_dict (by decide +kernel) (pa_cons (pv 6) pa_nil))) (pss_cons (ps_if (PW.pt (pw_or (pt_not (pt_val (pe_call (ok_law_truth T) (hr.mono (by decide)) rfl T.h_law_truth.m T.h_law_truth.F.kp T.h_law_truth.b .nil pass0 (pa_cons (pe_call (ok_is_page T) (hr.mono (by decide)) rfl T.h_is_page.m T.h_is_page.F.kp T.h_is_page.b .nil pass0 (pa_cons (pv 8) pa_nil)) (pa_cons (pv 4) pa_nil))))) (pw_or (pt_cmpR (gc_ne_dict hr.units0) (pv 8) (pv 6) (nomark _)) (pw_or1 (pt_cmpR op_notBl (pe_call (ok_is_page T) (hr.mono (by decide)) rfl T.h_is_page.m T.h_is_page.F.kp T.h_is_page.b .nil pass0 (pa_cons pe_dnewK pa_nil)) pe_bl (nomark _)))))) (pss_one (ps_ret pe_bl)) pss_nil) (pss_one (ps_ret (pe_and (pe_cmpR op_isBl (pe_call (ok_is_page T) (hr.mono (by decide)) rfl T.h_is_page.m T.h_is_page.F.kp T.h_is_page.b .nil pass0 (pa_cons (pv 2) pa_nil)) pe_bl (nomark _)) (pe_and (pe_cmpR op_isBl (pe_call (ok_is_page T) (hr.mono (by decide)) rfl T.h_is_page.m T.h_is_page.F.kp T.h_is_page.b .nil pass0 (pa_cons pe_str pa_nil)) pe_bl (nomark _)) (pe_and (pe_cmpR op_isBl (pe_call (ok_is_page T) (hr.mono (by decide)) rfl T.h_is_page.m T.h_is_page.F.kp T.h_is_page.b .nil pass0 (pa_cons pe_non pa_nil)) pe_bl (nomark _)) (pe_one (pe_cmpR op_isBl (pe_call (ok_is_page T) (hr.mono (by decide)) rfl T.h_is_page.m T.h_is_page.F.kp T.h_is_page.b .nil pass0 (pa_cons (pe_callB call_len_seq (by rfl) T.n_len PySem.boot_len (pa_cons (pv 2) pa_nil)) pa_nil)) pe_bl (nomark _))))))))))))))))))), ?_⟩
    refine q_asg (by walk_at "ev") fun H1 e1 => ?_
    refine q_cut (M := fun σ' H' => ∃ n : Int, 0 ≤ n ∧ n ≤ 201 ∧ Ex H1 H' ∧ σ' = [some (.ref l), some (.int n), none, none, none, none, none, none, none]) ?_ ?_
    · have hm1 := Int.emod_nonneg (cellAt ns 0) (by decide : (5 : Int) ≠ 0)
      have hm2 := Int.emod_lt_of_pos (cellAt ns 0) (by decide : (0 : Int) < 5)
      have hm3 := Int.emod_nonneg (cellAt ns 0 / 30) (by decide : (4 : Int) ≠ 0)
      have hm4 := Int.emod_lt_of_pos (cellAt ns 0 / 30) (by decide : (0 : Int) < 4)
      refine s_when (by walk_at "ev") (fun hb H2 e2 => ?_) (fun hb H2 e2 => ?_)
      · exact s_asg (v := .int (198 + cellAt ns 0 / 30 % 4)) (by walk_at "ev") fun H3 e3 => ⟨_, by omega, by omega, by walk_at "ex", rfl⟩
      · exact ⟨_, by omega, by omega, by walk_at "ex", rfl⟩
    rintro σ' H2 ⟨n, hn0, hn1, e2, rfl⟩
    refine qx_asg (x_rows (K := K) (n := n) (by walk_at "ev") (by walk_at "ev") (by walk_at "ev") ⟨hn0, hn1⟩) fun v H3 e3 hv => ?_
    obtain ⟨p, vs, es, rfl, hp0, hp, hvl, hR, hE⟩ := hv
    refine q_asg (by walk_at "ev") fun H4 e4 => ?_
    refine q_asg (by walk_at "ev") fun H5 e5 => ?_
    have hvl' : es.length = vs.length := hR.1.symm
    have e35 : Ex H3 H5 := e4.trans e5
    refine q_cut (M := fun σ' H' => ∃ vs es s5, σ' = [some (.ref l), some (.int n), some (.ref p), some (.int (cellAt ns 3)), some (.bl (decide (n < 201) && es.all eOk)), s5, none, none, none] ∧ Ex H2 H' ∧ H' p = some (.lst vs) ∧ (vs.length : Int) = n ∧ RowsAt K H' vs es) ?_ ?_
    · refine s_when (b := decide (0 < n) && decide (0 < cellAt ns 3 % 4)) (by walk_at "ev") (fun hb H6 e6 => ?_) (fun hb H6 e6 => ?_)
      · rw [Bool.and_eq_true] at hb
        have hn := of_decide_eq_true hb.1
        have a1 : 0 ≤ cellAt ns 3 / 4 % n := Int.emod_nonneg _ (by omega)
        have a2 : cellAt ns 3 / 4 % n < n := Int.emod_lt_of_pos _ hn
        refine q_asg (v := .int (cellAt ns 3 / 4 % n)) (ev_op (by walk_at "ev") (ev_var rfl) (rv_I hn)) fun H7 e7 => ?_
        have e37 : Ex H3 H7 := (e35.trans e6).trans e7
        have e27 : Ex H2 H7 := e3.trans e37
        have hp7 := e37 _ _ hp
        have hR7 := hR.mono e37
        generalize hj : (cellAt ns 3 / 4 % n).toNat = j
        have ej : ((j : Nat) : Int) = cellAt ns 3 / 4 % n := by omega
        rw [← ej]
        have hjl : j < vs.length := by omega
        have hjl' : j < es.length := by omega
        obtain ⟨q0, hv0, hq0, hk0, hs0⟩ := hR7.2 j vs[j] es[j] (List.getElem?_eq_getElem hjl) (List.getElem?_eq_getElem hjl')
        have hok0 : eOk es[j] = true := List.all_eq_true.mp hE _ (List.getElem_mem hjl')
        generalize es[j] = e0 at hq0 hk0 hs0 hok0
        have hget : vs[j]? = some (.ref q0) := by rw [List.getElem?_eq_getElem hjl, hv0]
        have hok1 : keyOk e0.1 = true ∧ e0.2.2 = true := by
          unfold eOk at hok0
          rw [Bool.and_eq_true] at hok0
          exact hok0
        have setR : ∀ (H8 : Hp) (nv : V) (ne : Key × V × Bool), Ex H7 H8 → RowAt K H8 nv ne → RowsAt K (upd H8 p (.lst (vs.set j nv))) (vs.set j nv) (es.set j ne) := by
          intro H8 nv ne e8 hne
          refine ⟨by rw [List.length_set, List.length_set]; exact hR.1, fun i v e hv he => ?_⟩
          by_cases hij : j = i
          · subst hij
            rw [List.getElem?_set_self hjl] at hv
            rw [List.getElem?_set_self hjl'] at he
            obtain rfl := Option.some.inj hv
            obtain rfl := Option.some.inj he
            exact hne.upd (e8 _ _ hp7)
          · rw [List.getElem?_set_ne hij] at hv he
            exact ((hR7.2 i v e hv he).mono e8).upd (e8 _ _ hp7)
        have rowix : ∀ (H8 : Hp) (σ : L2.St), Ex H7 H8 → σ[2]? = some (some (.ref p)) → σ[5]? = some (some (.int ((j : Nat) : Int))) → Ev (tOp (rIxL K) (tVar 2) (tVar 5)) σ H8 (.ref q0) := fun H8 σ e8 h2 h5 => ev_op (ev_var h2) (ev_var h5) (rv_ixL (sq_of (e8 _ _ hp7)) (atI_nat hget))
        refine s_if (b := decide (V.int (cellAt ns 3 % 4) = V.int 1)) (by walk_at "ev") (fun hc H8 e8 => ?_) (fun hc H8 e8 => ?_)
        · haveI : Mono (fun v _ => ∃ key : Key, v = kV key ∧ KeyLen key ∧ keyOk key = decide (3 < cellAt ns 4 % 6)) := ⟨fun _ h => h⟩
          refine qx_setL (xs := vs) (j := j) (e8 _ _ hp7) (x_tup2X (x_oddName (by walk_at "ev")) (x_ev (ev_op (rowix H8 _ e8 rfl rfl) ev_c (rv_ixT (v := e0.2.1) (ex_t e8 hq0) rfl)))) (ev_var rfl) (ev_var rfl) hjl ?_ fun v H9 e9 hv => ?_
          · rintro v G1 G2 eg ⟨p', a, b, h1, h2, h3, h4, h5⟩
            exact ⟨p', a, b, h1, h2, eg _ _ h3, h4, h5⟩
          obtain ⟨p', a, b, rfl, hp', h3, ⟨key, rfl, hkl, hko⟩, rfl⟩ := hv
          have hnew : RowAt K H9 (.ref p') (key, e0.2.1, e0.2.2) := ⟨p', rfl, st_of h3, hkl, hs0.mono (e8.trans e9)⟩
          have eH : Ex H2 (upd H9 p (.lst (vs.set j (.ref p')))) := Ex.mut ((e27.trans e8).trans e9) hp0
          have hl9 : SqL K (upd H9 p (.lst (vs.set j (.ref p')))) l (ns.map V.int) := ex_l (((e1.trans e2).trans eH)) hl
          refine s_asg (v := .bl (decide (n < 201) && decide (3 < cellAt ns 4 % 6))) ?_ fun H10 e10 => ?_
          · refine ev_andV (ev_var rfl) fun _ => ?_
            exact ev_op (ev_op (ev_call (ea_cons (ev_var rfl) (ea_cons ev_c ea_nil)) (sv_cell hl9 (by decide))) ev_c (rv_I (by show (0 : Int) < 6; decide))) ev_c rv_I0
          · refine ⟨vs.set j (.ref p'), es.set j (key, e0.2.1, e0.2.2), some (.int ((j : Nat) : Int)), ?_, eH.trans e10, e10 _ _ upd_same, by rw [List.length_set]; exact hvl, (setR H9 _ _ (e8.trans e9) hnew).mono e10⟩
            rw [all_set hE hjl']
            have : eOk (key, e0.2.1, e0.2.2) = decide (3 < cellAt ns 4 % 6) := by
              show (keyOk key && e0.2.2) = _
              rw [hko, hok1.2, Bool.and_true]
            rw [this]
            rfl
        · haveI : Mono (ShN K) := inferInstance
          refine qx_setL (xs := vs) (j := j) (e8 _ _ hp7) (x_tup2X (x_ev (ev_op (rowix H8 _ e8 rfl rfl) ev_c (rv_ixT (v := kV e0.1) (ex_t e8 hq0) rfl))) (x_oddShare (by walk_at "ev"))) (ev_var rfl) (ev_var rfl) hjl ?_ fun v H9 e9 hv => ?_
          · rintro v G1 G2 eg ⟨p', a, b, h1, h2, h3, h4, h5⟩
            exact ⟨p', a, b, h1, h2, eg _ _ h3, h4, Mono.mono eg h5⟩
          obtain ⟨p', a, b, rfl, hp', h3, rfl, hb'⟩ := hv
          have hnew : RowAt K H9 (.ref p') (e0.1, b, false) := ⟨p', rfl, st_of h3, hk0, hb'⟩
          have eH : Ex H2 (upd H9 p (.lst (vs.set j (.ref p')))) := Ex.mut ((e27.trans e8).trans e9) hp0
          refine s_asg (v := .bl false) ev_c fun H10 e10 => ?_
          refine ⟨vs.set j (.ref p'), es.set j (e0.1, b, false), some (.int ((j : Nat) : Int)), ?_, eH.trans e10, e10 _ _ upd_same, by rw [List.length_set]; exact hvl, (setR H9 _ _ (e8.trans e9) hnew).mono e10⟩
          rw [all_set hE hjl']
          have : eOk (e0.1, b, false) = false := by
            show (keyOk e0.1 && false) = _
            rw [Bool.and_false]
          rw [this, Bool.and_false]
          rfl
      · exact ⟨vs, es, none, by rw [hE, Bool.and_true]; rfl, (e3.trans e35).trans e6, e6 _ _ (e35 _ _ hp), hvl, (hR.mono e35).mono e6⟩
    · rintro σ' H6 ⟨vs, es, s5, rfl, e6, hp, hvl, hR⟩
      have hlen : es.length = vs.length := hR.1.symm
      generalize hg : (decide (n < 201) && es.all eOk) = g
      refine qx_asg x_dnew fun v H7 e7 hv => ?_
      obtain ⟨d, rfl, hd0, hd⟩ := hv
      have hp7 := e7 _ _ hp
      have hR7 := hR.mono e7
      refine q_forLn (xs := vs) (a := p) (ev_var rfl) (sq_of hp7) (fun i σ' H' => ∃ kvs s7, σ' = [some (.ref l), some (.int n), some (.ref p), some (.int (cellAt ns 3)), some (.bl g), s5, some (.ref d), s7, none] ∧ Ex H6 H' ∧ H' d = some (.dK kvs) ∧ kvs.length ≤ i ∧ (kvs.length = i → kvs = (es.take i).map fun e => (e.1, e.2.1)) ∧ (kvs.map (·.1)).Nodup)
        (fun H8 e8 => ⟨[], none, rfl, e7.trans e8, e8 _ _ hd, Nat.le_refl _, fun _ => rfl, List.nodup_nil⟩) (fun i σ' H' _ ⟨_, _, _, eH, _⟩ => sq_of (eH _ _ hp)) ?_ ?_
      · rintro i x σ' H' hx ⟨kvs, s7, rfl, eH, hkd, hkl, hke, hnd⟩
        have hil : i < vs.length := (List.getElem?_eq_some_iff.mp hx).1
        have hil' : i < es.length := by omega
        have hes : es[i]? = some es[i] := List.getElem?_eq_getElem hil'
        obtain ⟨q0, hv0, hq0, hk0, hs0⟩ := (hR.mono eH).2 i x es[i] hx hes
        subst hv0
        refine s_dput (kvs := kvs) (k := es[i].1) (v := es[i].2.1) (ev_op (ev_var rfl) ev_c (rv_ixT hq0 rfl)) (ev_var rfl) (ev_op (ev_var rfl) ev_c (rv_ixT hq0 rfl)) hkd (by omega) fun H9 e9 => ?_
        refine ⟨_, some (.ref q0), rfl, Ex.mut (eH.trans e9) hd0, upd_same, by have := putK_len (kvs := kvs) (k := es[i].1) (v := es[i].2.1); omega, fun hl => ?_, putK_nd hnd⟩
        have h1 : kvs.length = i := by have := putK_len (kvs := kvs) (k := es[i].1) (v := es[i].2.1); omega
        rw [putK_full (by rw [hl, h1]), hke h1, List.take_succ, hes, List.map_append]
        rfl
      · rintro σ' H8 ⟨kvs, s7, rfl, eH, hkd, hkl, hke, hnd⟩
        have hR8 := hR.mono eH
        have hp8 := eH _ _ hp
        refine q_when (b := decide ((kvs.length : Int) < (vs.length : Int))) (et_test (ev_op (ev_cb (ea_cons (ev_var rfl) ea_nil) (rc_lenD hkd)) (ev_cb (ea_cons (ev_var rfl) ea_nil) (rc_lenL (sq_of hp8))) rv_I0)) (fun hb H9 e9 => ?_) (fun hb H9 e9 => ?_)
        · exact s_ret ev_c fun H10 e10 => k H10
        have hb' := of_decide_eq_false hb
        have hkn : kvs.length = vs.length := by omega
        have hkv : kvs = es.map fun e => (e.1, e.2.1) := by
          have := hke hkn
          rw [List.take_of_length_le (by omega)] at this
          exact this
        have hkd9 := e9 _ _ hkd
        refine qx_asg (x_dcopy (ev_var rfl) hkd9) fun v H10 e10 hv => ?_
        obtain ⟨d2, rfl, hd20, hd2⟩ := hv
        have hkd10 := e10 _ _ hkd9
        have hR10 := (hR8.mono e9).mono e10
        have hall : ∀ e ∈ es, KeyLen e.1 ∧ ShAt K H10 e.2.1 e.2.2 := fun e he => by
          obtain ⟨i, hi, hie⟩ := List.getElem_of_mem he
          obtain ⟨q0, _, _, h3, h4⟩ := hR10.2 i vs[i] es[i] (List.getElem?_eq_getElem (by omega)) (List.getElem?_eq_getElem hi)
          rw [hie] at h3 h4
          exact ⟨h3, h4⟩
        have hpb : pageB es = g := by
          rw [← hg]
          show (decide (es.length ≤ 200) && es.all eOk) = _
          rw [show decide (es.length ≤ 200) = decide (n < 201) from decide_eq_decide.mpr ⟨fun _ => by omega, fun _ => by omega⟩]
        have hpl : ∀ q ∈ kvs, valV kvs q.1 = some q.2 ∧ (flatB q.2 = true ∨ ∃ a, q.2 = .ref a) := fun q hq => ⟨val_nodup hnd q hq, by
          rw [hkv] at hq
          obtain ⟨e, he, rfl⟩ := List.mem_map.mp hq
          exact (hall e he).2.plain⟩
        rw [hkv] at hd2
        refine q_when (b := !decide (V.bl g = V.bl g) || (false || !decide (true = true))) ?_ (fun hc H11 e11 => ?_) (fun hc H11 e11 => ?_)
        · refine et_or (et_not (et_B ?_)) fun _ => et_or (et_test (ev_op (ev_var rfl) (ev_var rfl) (rv_neDict (ks := kvs) (ls := kvs) (by rw [hkv]; exact hd2) hkd10 rfl hpl))) fun _ => et_test (ev_op (ev_x (x_call1 (P1 := Nw H10 (.dK [])) x_dnew ?_)) ev_c rv_notB)
          · have := sv_isPage hd2 (by omega) hall
            rw [hpb] at this
            exact ev_call (ea_cons (ev_call (ea_cons (ev_var rfl) ea_nil) this) (ea_cons (ev_var rfl) ea_nil)) sv_truth
          · rintro v H12 e12 ⟨p', rfl, _, hp'⟩
            exact sx_isPage (es := []) hp' (by decide) (fun e h => by cases h)
        · exact absurd hc (by simp)
        refine s_ret (v := .bl (decide (false = false) && (decide (false = false) && (decide (false = false) && decide (false = false))))) ?_ fun H12 e12 => k H12
        have hp11 : SqL K H11 p vs := sq_of (e11 _ _ (e10 _ _ (e9 _ _ hp8)))
        refine ev_andV (ev_op (ev_call (ea_cons (ev_var rfl) ea_nil) (sv_noPage (tyx_lst hp11) (by decide +kernel))) ev_c rv_isB) fun _ => ?_
        refine ev_andV (ev_op (ev_call (ea_cons ev_c ea_nil) (sv_noPage (.base (.str _)) (by decide +kernel))) ev_c rv_isB) fun _ => ?_
        refine ev_andV (ev_op (ev_call (ea_cons ev_c ea_nil) (sv_noPage (.base .non) (by decide +kernel))) ev_c rv_isB) fun _ => ?_
        exact ev_op (ev_call (ea_cons (ev_cb (ea_cons (ev_var rfl) ea_nil) (rc_lenL hp11)) ea_nil) (sv_noPage (.base (.int _)) (by decide +kernel))) ev_c rv_isB
end

theorem all_mk {l : PySem.W.OpenLaw} {w : World} {K : PySem.W.Frag} {h : Heap} {mg : Str → Option Value} {fa : Addr} (X : K.In h) (G : h.Ns mainGlobals mg) (hfa : mg "law" = some (.ref fa))
    {f0 : Addr} {od0 an0 : Option Addr} {sl0 : Array (Option Value)} {oc0 kV0 dc0 pm0 cd0 ct0 : Value}
    {f1 : Addr} {od1 an1 : Option Addr} {sl1 : Array (Option Value)} {oc1 kV1 dc1 pm1 cd1 ct1 : Value}
    {f2 : Addr} {od2 an2 : Option Addr} {sl2 : Array (Option Value)} {oc2 kV2 dc2 pm2 cd2 ct2 : Value}
    {f3 : Addr} {od3 an3 : Option Addr} {sl3 : Array (Option Value)} {oc3 kV3 dc3 pm3 cd3 ct3 : Value}
    {f4 : Addr} {od4 an4 : Option Addr} {sl4 : Array (Option Value)} {oc4 kV4 dc4 pm4 cd4 ct4 : Value}
    {f5 : Addr} {od5 an5 : Option Addr} {sl5 : Array (Option Value)} {oc5 kV5 dc5 pm5 cd5 ct5 : Value}
    {f6 : Addr} {od6 an6 : Option Addr} {sl6 : Array (Option Value)} {oc6 kV6 dc6 pm6 cd6 ct6 : Value}
    {f7 : Addr} {od7 an7 : Option Addr} {sl7 : Array (Option Value)} {oc7 kV7 dc7 pm7 cd7 ct7 : Value}
    {f8 : Addr} {od8 an8 : Option Addr} {sl8 : Array (Option Value)} {oc8 kV8 dc8 pm8 cd8 ct8 : Value}
    {f9 : Addr} {od9 an9 : Option Addr} {sl9 : Array (Option Value)} {oc9 kV9 dc9 pm9 cd9 ct9 : Value}
    {f10 : Addr} {od10 an10 : Option Addr} {sl10 : Array (Option Value)} {oc10 kV10 dc10 pm10 cd10 ct10 : Value}
    {f11 : Addr} {od11 an11 : Option Addr} {sl11 : Array (Option Value)} {oc11 kV11 dc11 pm11 cd11 ct11 : Value}
    {f12 : Addr} {od12 an12 : Option Addr} {sl12 : Array (Option Value)} {oc12 kV12 dc12 pm12 cd12 ct12 : Value}
    {f13 : Addr} {od13 an13 : Option Addr} {sl13 : Array (Option Value)} {oc13 kV13 dc13 pm13 cd13 ct13 : Value}
    {tk_LONGEST_NAME : Tok}
    {p_NOTHING : Addr} {o_NOTHING : Obj}
    {tk_BEYOND : Tok}
    {tk_MOST_NAMES : Tok}
    (a0 : PySem.W.nsIn K mainGlobals "is_name" = some (some (.ref f0))) (l0 : K.lookup f0 = some ⟨oc0, od0, .func (PySem.W.fnOf "is_name" "is_name" (defArgs s_is_name) (defBody s_is_name) (defScope s_is_name) .none kV0 dc0 pm0 an0 cd0 ct0), sl0⟩) (c0 : PySem.W.codeIn K cd0 "is_name" = true) (k0 : PySem.W.keepIn K (.ref f0) = true)
    (a1 : PySem.W.nsIn K mainGlobals "is_whole" = some (some (.ref f1))) (l1 : K.lookup f1 = some ⟨oc1, od1, .func (PySem.W.fnOf "is_whole" "is_whole" (defArgs s_is_whole) (defBody s_is_whole) (defScope s_is_whole) .none kV1 dc1 pm1 an1 cd1 ct1), sl1⟩) (c1 : PySem.W.codeIn K cd1 "is_whole" = true) (k1 : PySem.W.keepIn K (.ref f1) = true)
    (a2 : PySem.W.nsIn K mainGlobals "is_share" = some (some (.ref f2))) (l2 : K.lookup f2 = some ⟨oc2, od2, .func (PySem.W.fnOf "is_share" "is_share" (defArgs s_is_share) (defBody s_is_share) (defScope s_is_share) .none kV2 dc2 pm2 an2 cd2 ct2), sl2⟩) (c2 : PySem.W.codeIn K cd2 "is_share" = true) (k2 : PySem.W.keepIn K (.ref f2) = true)
    (a3 : PySem.W.nsIn K mainGlobals "is_page" = some (some (.ref f3))) (l3 : K.lookup f3 = some ⟨oc3, od3, .func (PySem.W.fnOf "is_page" "is_page" (defArgs s_is_page) (defBody s_is_page) (defScope s_is_page) .none kV3 dc3 pm3 an3 cd3 ct3), sl3⟩) (c3 : PySem.W.codeIn K cd3 "is_page" = true) (k3 : PySem.W.keepIn K (.ref f3) = true)
    (a4 : PySem.W.nsIn K mainGlobals "_is_entry" = some (some (.ref f4))) (l4 : K.lookup f4 = some ⟨oc4, od4, .func (PySem.W.fnOf "_is_entry" "_is_entry" (defArgs s_is_entry) (defBody s_is_entry) (defScope s_is_entry) .none kV4 dc4 pm4 an4 cd4 ct4), sl4⟩) (c4 : PySem.W.codeIn K cd4 "_is_entry" = true) (k4 : PySem.W.keepIn K (.ref f4) = true)
    (a5 : PySem.W.nsIn K mainGlobals "_law_cell_at" = some (some (.ref f5))) (l5 : K.lookup f5 = some ⟨oc5, od5, .func (PySem.W.fnOf "_law_cell_at" "_law_cell_at" (defArgs s_law_cell_at) (defBody s_law_cell_at) (defScope s_law_cell_at) .none kV5 dc5 pm5 an5 cd5 ct5), sl5⟩) (c5 : PySem.W.codeIn K cd5 "_law_cell_at" = true) (k5 : PySem.W.keepIn K (.ref f5) = true)
    (a6 : PySem.W.nsIn K mainGlobals "_law_number_by" = some (some (.ref f6))) (l6 : K.lookup f6 = some ⟨oc6, od6, .func (PySem.W.fnOf "_law_number_by" "_law_number_by" (defArgs s_law_number_by) (defBody s_law_number_by) (defScope s_law_number_by) .none kV6 dc6 pm6 an6 cd6 ct6), sl6⟩) (c6 : PySem.W.codeIn K cd6 "_law_number_by" = true) (k6 : PySem.W.keepIn K (.ref f6) = true)
    (a7 : PySem.W.nsIn K mainGlobals "_law_name_by" = some (some (.ref f7))) (l7 : K.lookup f7 = some ⟨oc7, od7, .func (PySem.W.fnOf "_law_name_by" "_law_name_by" (defArgs s_law_name_by) (defBody s_law_name_by) (defScope s_law_name_by) .none kV7 dc7 pm7 an7 cd7 ct7), sl7⟩) (c7 : PySem.W.codeIn K cd7 "_law_name_by" = true) (k7 : PySem.W.keepIn K (.ref f7) = true)
    (a8 : PySem.W.nsIn K mainGlobals "_law_mixed" = some (some (.ref f8))) (l8 : K.lookup f8 = some ⟨oc8, od8, .func (PySem.W.fnOf "_law_mixed" "_law_mixed" (defArgs s_law_mixed) (defBody s_law_mixed) (defScope s_law_mixed) .none kV8 dc8 pm8 an8 cd8 ct8), sl8⟩) (c8 : PySem.W.codeIn K cd8 "_law_mixed" = true) (k8 : PySem.W.keepIn K (.ref f8) = true)
    (a9 : PySem.W.nsIn K mainGlobals "_law_truth" = some (some (.ref f9))) (l9 : K.lookup f9 = some ⟨oc9, od9, .func (PySem.W.fnOf "_law_truth" "_law_truth" (defArgs s_law_truth) (defBody s_law_truth) (defScope s_law_truth) .none kV9 dc9 pm9 an9 cd9 ct9), sl9⟩) (c9 : PySem.W.codeIn K cd9 "_law_truth" = true) (k9 : PySem.W.keepIn K (.ref f9) = true)
    (a10 : PySem.W.nsIn K mainGlobals "_law_rows_by" = some (some (.ref f10))) (l10 : K.lookup f10 = some ⟨oc10, od10, .func (PySem.W.fnOf "_law_rows_by" "_law_rows_by" (defArgs s_law_rows_by) (defBody s_law_rows_by) (defScope s_law_rows_by) .none kV10 dc10 pm10 an10 cd10 ct10), sl10⟩) (c10 : PySem.W.codeIn K cd10 "_law_rows_by" = true) (k10 : PySem.W.keepIn K (.ref f10) = true)
    (a11 : PySem.W.nsIn K mainGlobals "_law_odd_name" = some (some (.ref f11))) (l11 : K.lookup f11 = some ⟨oc11, od11, .func (PySem.W.fnOf "_law_odd_name" "_law_odd_name" (defArgs s_law_odd_name) (defBody s_law_odd_name) (defScope s_law_odd_name) .none kV11 dc11 pm11 an11 cd11 ct11), sl11⟩) (c11 : PySem.W.codeIn K cd11 "_law_odd_name" = true) (k11 : PySem.W.keepIn K (.ref f11) = true)
    (a12 : PySem.W.nsIn K mainGlobals "_law_odd_share" = some (some (.ref f12))) (l12 : K.lookup f12 = some ⟨oc12, od12, .func (PySem.W.fnOf "_law_odd_share" "_law_odd_share" (defArgs s_law_odd_share) (defBody s_law_odd_share) (defScope s_law_odd_share) .none kV12 dc12 pm12 an12 cd12 ct12), sl12⟩) (c12 : PySem.W.codeIn K cd12 "_law_odd_share" = true) (k12 : PySem.W.keepIn K (.ref f12) = true)
    (a13 : PySem.W.nsIn K mainGlobals "law" = some (some (.ref f13))) (l13 : K.lookup f13 = some ⟨oc13, od13, .func (PySem.W.fnOf "law" "law" (defArgs s_law) (defBody s_law) (defScope s_law) .none kV13 dc13 pm13 an13 cd13 ct13), sl13⟩) (c13 : PySem.W.codeIn K cd13 "law" = true) (k13 : PySem.W.keepIn K (.ref f13) = true)
    (z_all : PySem.W.nsIn K mainGlobals "all" = some none)
    (z_bool : PySem.W.nsIn K mainGlobals "bool" = some none)
    (z_dict : PySem.W.nsIn K mainGlobals "dict" = some none)
    (z_int : PySem.W.nsIn K mainGlobals "int" = some none)
    (z_isinstance : PySem.W.nsIn K mainGlobals "isinstance" = some none)
    (z_len : PySem.W.nsIn K mainGlobals "len" = some none)
    (z_range : PySem.W.nsIn K mainGlobals "range" = some none)
    (z_str : PySem.W.nsIn K mainGlobals "str" = some none)
    (z_tuple : PySem.W.nsIn K mainGlobals "tuple" = some none)
    (g_LONGEST_NAME : PySem.W.nsIn K mainGlobals "LONGEST_NAME" = some (some (.int (8) tk_LONGEST_NAME)))
    (g_NOTHING : PySem.W.nsIn K mainGlobals "NOTHING" = some (some (.ref p_NOTHING))) (q_NOTHING : K.lookup p_NOTHING = some o_NOTHING) (r_NOTHING : tupInts o_NOTHING [0, 0] = true)
    (g_BEYOND : PySem.W.nsIn K mainGlobals "BEYOND" = some (some (.int (1000000000000000000000000000000000000000000000000000000000000) tk_BEYOND)))
    (g_MOST_NAMES : PySem.W.nsIn K mainGlobals "MOST_NAMES" = some (some (.int (200) tk_MOST_NAMES))) :
    ∃ fd : FuncData, (∀ (s : Shared) (v : Value), BindsTo s fd ⟨[v], []⟩ [("_law_script", v)]) ∧ ∀ base : Heap, K.In base → base.Ns mainGlobals mg → FnOk l.prog w K mg base CX0 5 fa fd ["_law_script"] (spLaw K) := by
  have e := hfa.symm.trans (PySem.W.mg_of X G a13)
  cases e
  have F0 := fun_mk (st := s_is_name) l0 c0 k0
  have b0 := F0.binds (ps := ["thing"]) fun _ _ _ _ _ _ us hl => match us, hl with | [_], _ => rfl
  have F1 := fun_mk (st := s_is_whole) l1 c1 k1
  have b1 := F1.binds (ps := ["thing"]) fun _ _ _ _ _ _ us hl => match us, hl with | [_], _ => rfl
  have F2 := fun_mk (st := s_is_share) l2 c2 k2
  have b2 := F2.binds (ps := ["thing"]) fun _ _ _ _ _ _ us hl => match us, hl with | [_], _ => rfl
  have F3 := fun_mk (st := s_is_page) l3 c3 k3
  have b3 := F3.binds (ps := ["thing"]) fun _ _ _ _ _ _ us hl => match us, hl with | [_], _ => rfl
  have F4 := fun_mk (st := s_is_entry) l4 c4 k4
  have b4 := F4.binds (ps := ["name", "share"]) fun _ _ _ _ _ _ us hl => match us, hl with | [_, _], _ => rfl
  have F5 := fun_mk (st := s_law_cell_at) l5 c5 k5
  have b5 := F5.binds (ps := ["_law_script", "_law_k"]) fun _ _ _ _ _ _ us hl => match us, hl with | [_, _], _ => rfl
  have F6 := fun_mk (st := s_law_number_by) l6 c6 k6
  have b6 := F6.binds (ps := ["_law_cell"]) fun _ _ _ _ _ _ us hl => match us, hl with | [_], _ => rfl
  have F7 := fun_mk (st := s_law_name_by) l7 c7 k7
  have b7 := F7.binds (ps := ["_law_cell"]) fun _ _ _ _ _ _ us hl => match us, hl with | [_], _ => rfl
  have F8 := fun_mk (st := s_law_mixed) l8 c8 k8
  have b8 := F8.binds (ps := ["_law_cell", "_law_k"]) fun _ _ _ _ _ _ us hl => match us, hl with | [_, _], _ => rfl
  have F9 := fun_mk (st := s_law_truth) l9 c9 k9
  have b9 := F9.binds (ps := ["_law_found", "_law_due"]) fun _ _ _ _ _ _ us hl => match us, hl with | [_, _], _ => rfl
  have F10 := fun_mk (st := s_law_rows_by) l10 c10 k10
  have b10 := F10.binds (ps := ["_law_names", "_law_shares", "_law_size"]) fun _ _ _ _ _ _ us hl => match us, hl with | [_, _, _], _ => rfl
  have F11 := fun_mk (st := s_law_odd_name) l11 c11 k11
  have b11 := F11.binds (ps := ["_law_cell"]) fun _ _ _ _ _ _ us hl => match us, hl with | [_], _ => rfl
  have F12 := fun_mk (st := s_law_odd_share) l12 c12 k12
  have b12 := F12.binds (ps := ["_law_cell"]) fun _ _ _ _ _ _ us hl => match us, hl with | [_], _ => rfl
  have F13 := fun_mk (st := s_law) l13 c13 k13
  have b13 := F13.binds (ps := ["_law_script"]) fun _ _ _ _ _ _ us hl => match us, hl with | [_], _ => rfl
  let T : Txt K mg := { a_is_name := f0, d_is_name := _, h_is_name := ⟨PySem.W.mg_of X G a0, F0, b0⟩, a_is_whole := f1, d_is_whole := _, h_is_whole := ⟨PySem.W.mg_of X G a1, F1, b1⟩, a_is_share := f2, d_is_share := _, h_is_share := ⟨PySem.W.mg_of X G a2, F2, b2⟩, a_is_page := f3, d_is_page := _, h_is_page := ⟨PySem.W.mg_of X G a3, F3, b3⟩, a_is_entry := f4, d_is_entry := _, h_is_entry := ⟨PySem.W.mg_of X G a4, F4, b4⟩, a_law_cell_at := f5, d_law_cell_at := _, h_law_cell_at := ⟨PySem.W.mg_of X G a5, F5, b5⟩, a_law_number_by := f6, d_law_number_by := _, h_law_number_by := ⟨PySem.W.mg_of X G a6, F6, b6⟩, a_law_name_by := f7, d_law_name_by := _, h_law_name_by := ⟨PySem.W.mg_of X G a7, F7, b7⟩, a_law_mixed := f8, d_law_mixed := _, h_law_mixed := ⟨PySem.W.mg_of X G a8, F8, b8⟩, a_law_truth := f9, d_law_truth := _, h_law_truth := ⟨PySem.W.mg_of X G a9, F9, b9⟩, a_law_rows_by := f10, d_law_rows_by := _, h_law_rows_by := ⟨PySem.W.mg_of X G a10, F10, b10⟩, a_law_odd_name := f11, d_law_odd_name := _, h_law_odd_name := ⟨PySem.W.mg_of X G a11, F11, b11⟩, a_law_odd_share := f12, d_law_odd_share := _, h_law_odd_share := ⟨PySem.W.mg_of X G a12, F12, b12⟩, a_law := fa, d_law := _, h_law := ⟨PySem.W.mg_of X G a13, F13, b13⟩, n_all := PySem.W.mg_none_of X G z_all, n_bool := PySem.W.mg_none_of X G z_bool, n_dict := PySem.W.mg_none_of X G z_dict, n_int := PySem.W.mg_none_of X G z_int, n_isinstance := PySem.W.mg_none_of X G z_isinstance, n_len := PySem.W.mg_none_of X G z_len, n_range := PySem.W.mg_none_of X G z_range, n_str := PySem.W.mg_none_of X G z_str, n_tuple := PySem.W.mg_none_of X G z_tuple, v_LONGEST_NAME := _, g_LONGEST_NAME := ⟨PySem.W.mg_of X G g_LONGEST_NAME, ⟨_, rfl⟩⟩, p_NOTHING := p_NOTHING, g_NOTHING := ⟨PySem.W.mg_of X G g_NOTHING, rfl⟩, t_NOTHING := fun H => sqT_written q_NOTHING r_NOTHING, v_BEYOND := _, g_BEYOND := ⟨PySem.W.mg_of X G g_BEYOND, ⟨_, rfl⟩⟩, v_MOST_NAMES := _, g_MOST_NAMES := ⟨PySem.W.mg_of X G g_MOST_NAMES, ⟨_, rfl⟩⟩ }
  exact ⟨_, fun s v => .of_eq rfl, fun base _ _ => ok_law T⟩
theorem walk {l : PySem.W.OpenLaw} {q : Program} {loose : List Str} {XP : (Str → Option Value) → Heap → Prop} {YP : World → Heap → Prop} {d : DefRec} {K : Params → PySem.W.Frag} (hn : l.most = some 63) (hdf : d.params.defaults = [])
    (hY : ∀ (w : World) (h : Heap), YP w h → (K w.params).In h)
    (F : ∀ (w : World) (mg : Str → Option Value) (fa : Addr) (h : Heap), (K w.params).In h → h.Ns mainGlobals mg → mg d.name = some (.ref fa) →
      ∃ fd : FuncData, (∀ (s : Shared) (u : Value), BindsTo s fd ⟨[u], []⟩ [("_law_script", u)]) ∧ ∀ base : Heap, (K w.params).In base → base.Ns mainGlobals mg → FnOk l.prog w (K w.params) mg base CX0 5 fa fd ["_law_script"] (spLaw (K w.params))) :
    PySem.W.WalkO q loose XP YP l.row.toRowW d [] (fun f vs => PySem.call f vs) :=
  L2.walk_of (n := 63) (k := 5) (x := "_law_script") (CX := fun _ => CX0) (sp := fun w => spLaw (K w.params)) hn (by decide) hdf ⟨rfl, by decide, by decide⟩ hY F (fun _ _ a ns hl _ hS => ⟨a, ns, rfl, hS, hl, fun _ => rfl⟩) fun _ _ _ _ _ z => z
end GC
open PySem PySem.W PyProof.Rows
set_option maxRecDepth 100000 in
set_option maxHeartbeats 0 in
theorem PySem.Challenge.cw_gossipcount_k04_pages_or_not_holds : PySem.Challenge.rw_gossipcount_k04_pages_or_not.Holds := by
  w_on; o_law; k_head; (case hw => w_witness2)
  k_fill
  refine GC.walk (l := PySem.Challenge.rw_gossipcount_k04_pages_or_not) rfl rfl (fun w h Y => PySem.W.kIn_of Y) ?F
  case F =>
    intro w mg fa h KX G hmg
    refine' GC.all_mk KX G hmg ?a0 ?l0 ?c0 ?k0 ?a1 ?l1 ?c1 ?k1 ?a2 ?l2 ?c2 ?k2 ?a3 ?l3 ?c3 ?k3 ?a4 ?l4 ?c4 ?k4 ?a5 ?l5 ?c5 ?k5 ?a6 ?l6 ?c6 ?k6 ?a7 ?l7 ?c7 ?k7 ?a8 ?l8 ?c8 ?k8 ?a9 ?l9 ?c9 ?k9 ?a10 ?l10 ?c10 ?k10 ?a11 ?l11 ?c11 ?k11 ?a12 ?l12 ?c12 ?k12 ?a13 ?l13 ?c13 ?k13 ?z_all ?z_bool ?z_dict ?z_int ?z_isinstance ?z_len ?z_range ?z_str ?z_tuple ?g_LONGEST_NAME ?g_NOTHING ?q_NOTHING ?r_NOTHING ?g_BEYOND ?g_MOST_NAMES
    (case a0 => k_is)
    (case l0 => k_is)
    (case c0 => k_is)
    (case k0 => k_is)
    (case a1 => k_is)
    (case l1 => k_is)
    (case c1 => k_is)
    (case k1 => k_is)
    (case a2 => k_is)
    (case l2 => k_is)
    (case c2 => k_is)
    (case k2 => k_is)
    (case a3 => k_is)
    (case l3 => k_is)
    (case c3 => k_is)
    (case k3 => k_is)
    (case a4 => k_is)
    (case l4 => k_is)
    (case c4 => k_is)
    (case k4 => k_is)
    (case a5 => k_is)
    (case l5 => k_is)
    (case c5 => k_is)
    (case k5 => k_is)
    (case a6 => k_is)
    (case l6 => k_is)
    (case c6 => k_is)
    (case k6 => k_is)
    (case a7 => k_is)
    (case l7 => k_is)
    (case c7 => k_is)
    (case k7 => k_is)
    (case a8 => k_is)
    (case l8 => k_is)
    (case c8 => k_is)
    (case k8 => k_is)
    (case a9 => k_is)
    (case l9 => k_is)
    (case c9 => k_is)
    (case k9 => k_is)
    (case a10 => k_is)
    (case l10 => k_is)
    (case c10 => k_is)
    (case k10 => k_is)
    (case a11 => k_is)
    (case l11 => k_is)
    (case c11 => k_is)
    (case k11 => k_is)
    (case a12 => k_is)
    (case l12 => k_is)
    (case c12 => k_is)
    (case k12 => k_is)
    (case a13 => k_is)
    (case l13 => k_is)
    (case c13 => k_is)
    (case k13 => k_is)
    (case z_all => k_is)
    (case z_bool => k_is)
    (case z_dict => k_is)
    (case z_int => k_is)
    (case z_isinstance => k_is)
    (case z_len => k_is)
    (case z_range => k_is)
    (case z_str => k_is)
    (case z_tuple => k_is)
    (case g_LONGEST_NAME => k_is)
    (case g_NOTHING => k_is)
    (case q_NOTHING => k_is)
    (case r_NOTHING => rfl)
    (case g_BEYOND => k_is)
    (case g_MOST_NAMES => k_is)
