import PyProof.Rows.All
import Wide.All
import OpenK.AllK
import Wide.FinOn
import HandS.ForMost
import HandS.Evl
import HandS.IsInst
import HandS.Style
import HandS.DictComp
import HandS.SortInts
import HandS.SetKeys

import PySem.Challenge.RW_gossipcount_k02_shares_beside
set_option Elab.async false
set_option linter.all false
set_option maxRecDepth 100000
set_option maxHeartbeats 4000000
namespace GC
open PySem L2 Evl
/-! ### values told by a predicate, over heaps that only grow -/
abbrev VP := V → Hp → Prop
class Mono (P : VP) : Prop where
  mono : ∀ {v : V} {H H' : Hp}, Ex H H' → P v H → P v H'
def Is (v0 : V) : VP := fun v _ => v = v0
instance {v0 : V} : Mono (Is v0) := ⟨fun _ h => h⟩
/-- a tuple of these values, a list of these values, wherever it stands -/
def Tp (K : PySem.W.Frag) (xs : List V) : VP := fun v H => ∃ p, v = .ref p ∧ SqT K H p xs
def Ls (K : PySem.W.Frag) (xs : List V) : VP := fun v H => ∃ p, v = .ref p ∧ SqL K H p xs
instance {K : PySem.W.Frag} {xs : List V} : Mono (Tp K xs) := ⟨fun e ⟨p, a, b⟩ => ⟨p, a, ex_t e b⟩⟩
instance {K : PySem.W.Frag} {xs : List V} : Mono (Ls K xs) := ⟨fun e ⟨p, a, b⟩ => ⟨p, a, ex_l e b⟩⟩
/-- a new object -/
def Nw (H : Hp) (o : HO) : VP := fun v H2 => ∃ p, v = .ref p ∧ H p = none ∧ H2 p = some o
instance {H : Hp} {o : HO} : Mono (Nw H o) := ⟨fun e ⟨p, a, b, c⟩ => ⟨p, a, b, e p _ c⟩⟩
def EvX (te : TE) (σ : L2.St) (H : Hp) (P : VP) : Prop := ∀ H1, Ex H H1 → ∀ Q : VK, (∀ v H2, Ex H1 H2 → P v H2 → Q v H2) → te σ H1 Q
def EvXA (ta : TA) (σ : L2.St) (H : Hp) (P : List V → Hp → Prop) : Prop := ∀ H1, Ex H H1 → ∀ Q : List V → Hp → Prop, (∀ vs H2, Ex H1 H2 → P vs H2 → Q vs H2) → ta σ H1 Q
def SpX (sp : Sp) (vs : List V) (H : Hp) (P : VP) : Prop := ∀ H1, Ex H H1 → ∀ (Q : VK) (E : XK), (∀ v H2, Ex H1 H2 → P v H2 → Q v H2) → sp vs H1 Q E
def Ret (P : VP) (H : Hp) (Q : VK) : Prop := ∀ v H2, Ex H H2 → P v H2 → Q v H2
/-- a def that changes nothing that stood: its arguments by x, what must hold of them, what is told -/
def SpF {α : Type} (args : α → List V) (Pre : α → Hp → Prop) (Post : α → Hp → VP) : Sp := fun vs H Q _ => ∃ x : α, vs = args x ∧ Pre x H ∧ Ret (Post x H) H Q
section
variable {K : PySem.W.Frag} {σ : L2.St} {H H' : Hp} {ta tb te tx : TE} {t u : TT} {x y z v : V} {P P' R : VP}
theorem sx_of {α : Type} {args : α → List V} {Pre : α → Hp → Prop} {Post : α → Hp → VP} (x : α) (hm : ∀ H1, Ex H H1 → Pre x H1) (hp : ∀ H1 v H2, Ex H H1 → Ex H1 H2 → Post x H1 v H2 → P v H2) : SpX (SpF args Pre Post) (args x) H P :=
  fun H1 e Q _ q => ⟨x, rfl, hm H1 e, fun v H2 e2 h => q v H2 e2 (hp H1 v H2 e e2 h)⟩
theorem sv_of {sp : Sp} {vs : List V} (h : SpX sp vs H (Is v)) : SpV sp vs H v := fun H1 e Q q E => h H1 e Q E fun w H2 e2 hw => by
  cases (show w = v from hw)
  exact q H2 e2
theorem x_ev (h : Ev te σ H v) : EvX te σ H (Is v) := fun H1 e Q q => h H1 e Q fun H2 e2 => q v H2 e2 rfl
theorem ev_x (h : EvX te σ H (Is v)) : Ev te σ H v := fun H1 e Q q => h H1 e Q fun w H2 e2 hw => by
  cases (show w = v from hw)
  exact q H2 e2
theorem x_is (h : Ev te σ H v) (hp : ∀ H1, Ex H H1 → P v H1) : EvX te σ H P := fun H1 e Q q => h H1 e Q fun H2 e2 => q v H2 e2 (hp H2 (e.trans e2))
theorem EvX.mono (e : Ex H H') (h : EvX te σ H P) : EvX te σ H' P := fun H1 a Q q => h H1 (e.trans a) Q q
theorem EvX.imp (h : EvX te σ H P) (hp : ∀ v H1, Ex H H1 → P v H1 → R v H1) : EvX te σ H R := fun H1 e Q q => h H1 e Q fun w H2 e2 hw => q w H2 e2 (hp w H2 (e.trans e2) hw)
theorem x_tup {ta : TA} {vs : List V} (h : EvA ta σ H vs) (hl : vs.length ≤ 100000 := by exact Nat.le_of_ble_eq_true rfl) : EvX (tTup ta) σ H (Nw H (.tup vs)) := fun H1 e Q q =>
  eu_tup h hl H1 e Q fun p H2 hp e2 h2 => q _ H2 e2 ⟨p, rfl, fresh_back e hp, h2⟩
theorem x_lst {ta : TA} {vs : List V} (h : EvA ta σ H vs) (hl : vs.length ≤ 100000 := by exact Nat.le_of_ble_eq_true rfl) : EvX (tLst ta) σ H (Nw H (.lst vs)) := fun H1 e Q q =>
  el_lst h hl H1 e Q fun p H2 hp e2 h2 => q _ H2 e2 ⟨p, rfl, fresh_back e hp, h2⟩
theorem x_dnew : EvX tDNewK σ H (Nw H (.dK [])) := fun H1 e Q q => fun p hp => q _ _ (Ex.new hp) ⟨p, rfl, fresh_back e hp, upd_same⟩
theorem nw_tp {xs : List V} : ∀ v H1, Ex H H1 → Nw H (.tup xs) v H1 → Tp K xs v H1 := fun _ _ _ ⟨p, a, _, c⟩ => ⟨p, a, st_of c⟩
theorem nw_ls {xs : List V} : ∀ v H1, Ex H H1 → Nw H (.lst xs) v H1 → Ls K xs v H1 := fun _ _ _ ⟨p, a, _, c⟩ => ⟨p, a, sq_of c⟩
theorem nw_t {H0 H1 : Hp} {xs : List V} {v : V} : Nw H0 (.tup xs) v H1 → Tp K xs v H1 := fun ⟨p, a, _, c⟩ => ⟨p, a, st_of c⟩
theorem nw_l {H0 H1 : Hp} {xs : List V} {v : V} : Nw H0 (.lst xs) v H1 → Ls K xs v H1 := fun ⟨p, a, _, c⟩ => ⟨p, a, sq_of c⟩
theorem x_tupT {ta : TA} {vs : List V} (h : EvA ta σ H vs) (hl : vs.length ≤ 100000 := by exact Nat.le_of_ble_eq_true rfl) : EvX (tTup ta) σ H (Tp K vs) := (x_tup h hl).imp nw_tp
theorem x_tupM {ta : TA} {vs : List V} (h : EvA ta σ H vs) (hl : vs.length ≤ 100000) : EvX (tTup ta) σ H (Tp K vs) := (x_tup h hl).imp nw_tp
theorem ax_nil : EvXA tNil σ H (fun vs _ => vs = []) := fun H1 _ Q q => q [] H1 (Ex.refl H1) rfl
theorem ax_cons {tr : TA} {PA : List V → Hp → Prop} [Mono P] (h : EvX te σ H P) (hr : EvXA tr σ H PA) : EvXA (tCons te tr) σ H (fun vs H2 => ∃ v r, vs = v :: r ∧ P v H2 ∧ PA r H2) := fun H1 e Q q =>
  h H1 e _ fun v H2 e2 hv => hr H2 (e.trans e2) _ fun r H3 e3 hr' => q _ H3 (e2.trans e3) ⟨v, r, rfl, Mono.mono e3 hv, hr'⟩
theorem x_call {sp : Sp} {dvs : List V} {E : XK} {ta : TA} {PA : List V → Hp → Prop} (h : EvXA ta σ H PA) (hs : ∀ vs H1, Ex H H1 → PA vs H1 → SpX sp (vs ++ dvs) H1 P) : EvX (tCall sp dvs E ta) σ H P := fun H1 e Q q =>
  h H1 e _ fun vs H2 e2 hv => hs vs H2 (e.trans e2) hv H2 (Ex.refl H2) Q E fun v H3 e3 hp => q v H3 (e2.trans e3) hp
theorem x_if {b : Bool} (h : EvT t σ H b) (h1 : b = true → EvX ta σ H P) (h2 : b = false → EvX tb σ H P) : EvX (tIf t ta tb) σ H P := fun H1 e Q q => h H1 e _ fun H2 e2 => by
  cases b with
  | true => exact h1 rfl H2 (e.trans e2) Q fun v H3 e3 hv => q v H3 (e2.trans e3) hv
  | false => exact h2 rfl H2 (e.trans e2) Q fun v H3 e3 hv => q v H3 (e2.trans e3) hv
theorem ev_ifI {b : Bool} {i j : Int} (h : EvT t σ H b) (h1 : Ev ta σ H (.int i)) (h2 : Ev tb σ H (.int j)) : Ev (tIf t ta tb) σ H (.int (if b = true then i else j)) :=
  ev_if h (fun e => by rw [if_pos e]; exact h1) (fun e => by rw [if_neg (by rw [e]; exact Bool.false_ne_true)]; exact h2)
variable {D : Ends} {tu tw tz : TS}
theorem qx_asg {i : Nat} (h : EvX te σ H P) (k : ∀ v H1, Ex H H1 → P v H1 → tz D (σ.set i (some v)) H1) : tSeq (tAsg te (gName i)) tz D σ H := h H (Ex.refl H) _ fun v H1 e hp => k v H1 e hp
theorem sx_asg {i : Nat} (h : EvX te σ H P) (k : ∀ v H1, Ex H H1 → P v H1 → D.nx (σ.set i (some v)) H1) : tAsg te (gName i) D σ H := h H (Ex.refl H) _ fun v H1 e hp => k v H1 e hp
theorem sx_ret (h : EvX te σ H P) (k : ∀ v H1, Ex H H1 → P v H1 → D.rt v H1) : tRet te D σ H := h H (Ex.refl H) _ fun v H1 e hp => k v H1 e hp
end
section
variable {K : PySem.W.Frag} {σ : L2.St} {H H' : Hp} {ta tb te tx : TE} {t u : TT} {x y z v : V} {P P' R : VP}
theorem x_call1 {sp : Sp} {E : XK} {P1 : VP} (h1 : EvX ta σ H P1) (hs : ∀ v1 H1, Ex H H1 → P1 v1 H1 → SpX sp [v1] H1 P) : EvX (tCall sp [] E (tCons ta tNil)) σ H P := fun H1 e Q q =>
  h1 H1 e _ fun v1 H2 e2 p1 => hs v1 H2 (e.trans e2) p1 H2 (Ex.refl H2) Q E fun v H3 e3 hp => q v H3 (e2.trans e3) hp
theorem x_call2 {sp : Sp} {E : XK} {P1 P2 : VP} [Mono P1] (h1 : EvX ta σ H P1) (h2 : EvX tb σ H P2) (hs : ∀ v1 v2 H1, Ex H H1 → P1 v1 H1 → P2 v2 H1 → SpX sp [v1, v2] H1 P) : EvX (tCall sp [] E (tCons ta (tCons tb tNil))) σ H P := fun H1 e Q q =>
  h1 H1 e _ fun v1 H2 e2 p1 => h2 H2 (e.trans e2) _ fun v2 H3 e3 p2 => hs v1 v2 H3 ((e.trans e2).trans e3) (Mono.mono e3 p1) p2 H3 (Ex.refl H3) Q E fun v H4 e4 hp => q v H4 ((e2.trans e3).trans e4) hp
theorem x_varT {i : Nat} {p : Addr} {xs : List V} (h : σ[i]? = some (some (.ref p))) (hq : SqT K H p xs) : EvX (tVar i) σ H (Tp K xs) := x_is (ev_var h) fun _ e => ⟨p, rfl, ex_t e hq⟩
theorem x_varL {i : Nat} {p : Addr} {xs : List V} (h : σ[i]? = some (some (.ref p))) (hq : SqL K H p xs) : EvX (tVar i) σ H (Ls K xs) := x_is (ev_var h) fun _ e => ⟨p, rfl, ex_l e hq⟩
theorem ev_lenT {p : Addr} {xs : List V} (ha : Ev ta σ H (.ref p)) (h : SqT K H p xs) : Ev (tCB (rLenS K) (tCons ta tNil)) σ H (.int (xs.length : Int)) := fun H1 e Q q =>
  ha H1 e _ fun H2 e2 => ⟨p, xs, rfl, Or.inr (ex_t (e.trans e2) h), q H2 e2⟩
def rMin2 : List V → Hp → VK → Prop := fun xs H Q => ∃ i j, xs = [.int i, .int j] ∧ Q (.int (if j < i then j else i)) H
theorem ev_min2 {i j : Int} (ha : Ev ta σ H (.int i)) (hb : Ev tb σ H (.int j)) : Ev (tCB rMin2 (tCons ta (tCons tb tNil))) σ H (.int (if j < i then j else i)) := fun H1 e Q q =>
  ha H1 e _ fun H2 e2 => hb H2 (e.trans e2) _ fun H3 e3 => ⟨i, j, rfl, q H3 (e2.trans e3)⟩
/-- isinstance(x, T) -/
theorem ev_isi {a T : String} {b : Bool} (h : Ev tx σ H x) (hty : ∀ H1, Ex H H1 → TyX K H1 x (.type a)) (hb : kitB a T = some b) : Ev (tCB (rIsi K) (tCons tx (tCons (tC (.ty T)) tNil))) σ H (.bl b) := fun H1 e Q q =>
  h H1 e _ fun H2 e2 => ⟨x, .ty T, .type a, .type T, b, rfl, .ty T, hty H2 (e.trans e2), kit_ty hb, q H2 e2⟩
theorem tyx_tup {H : Hp} {p : Addr} {xs : List V} (h : SqT K H p xs) : TyX K H (.ref p) (.type "tuple") := by
  rcases h with (h | ⟨o, h⟩) | ⟨o, its, n, h1, h2, _⟩
  · exact .base (.tup h)
  · exact .fTuple h
  · exact .kTuple h1 h2
theorem tyx_lst {H : Hp} {p : Addr} {xs : List V} (h : SqL K H p xs) : TyX K H (.ref p) (.type "list") := by
  rcases h with (h | ⟨o, h⟩) | ⟨o, its, n, h1, h2, _⟩
  · exact .base (.lst h)
  · exact .base (.frz h)
  · exact .kList h1 h2
end
section
variable {K : PySem.W.Frag} {H : Hp} {x : V}
theorem rc_lenT {p : Addr} {xs : List V} (h : SqT K H p xs) : RC (rLenS K) [.ref p] H (.int (xs.length : Int)) := fun H1 e _ q => ⟨p, xs, rfl, Or.inr (ex_t e h), q H1 (Ex.refl H1)⟩
theorem rc_lenL {p : Addr} {xs : List V} (h : SqL K H p xs) : RC (rLenS K) [.ref p] H (.int (xs.length : Int)) := fun H1 e _ q => ⟨p, xs, rfl, Or.inl (ex_l e h), q H1 (Ex.refl H1)⟩
def rLenStr : List V → Hp → VK → Prop := fun xs H Q => ∃ z : Str, xs = [.str z] ∧ z.length ≤ sizeLine ∧ Q (.int z.length) H
theorem rc_lenStr {z : Str} (h : z.length ≤ 100000) : RC rLenStr [.str z] H (.int (z.length : Int)) := fun H1 _ _ q => ⟨z, rfl, sz_of h, q H1 (Ex.refl H1)⟩
theorem rc_max2 {i j : Int} : RC rMax2 [.int i, .int j] H (.int (if j > i then j else i)) := fun H1 _ _ q => ⟨i, j, rfl, q H1 (Ex.refl H1)⟩
theorem rc_min2 {i j : Int} : RC rMin2 [.int i, .int j] H (.int (if j < i then j else i)) := fun H1 _ _ q => ⟨i, j, rfl, q H1 (Ex.refl H1)⟩
theorem rc_isi {a T : String} {b : Bool} (hty : ∀ H1, Ex H H1 → TyX K H1 x (.type a)) (hb : kitB a T = some b) : RC (rIsi K) [x, .ty T] H (.bl b) := fun H1 e _ q =>
  ⟨x, .ty T, .type a, .type T, b, rfl, .ty T, hty H1 e, kit_ty hb, q H1 (Ex.refl H1)⟩
end
/-- what stands where a def's name points -/
structure Has (K : PySem.W.Frag) (mg : Str → Option Value) (x : Str) (st : Stmt) (ps : List Str) (f : Addr) (fd : FuncData) : Prop where
  m : mg x = some (.ref f)
  F : Fun K x x st f fd
  b : Binds K fd ps []
def tupInts (o : Obj) (ns : List Int) : Bool := match o.cls, o.data with
  | .type "tuple", .seq its _ => decide (its.size ≤ 1000) && decide (its.toList.map absV = ns.map fun i => some (V.int i))
  | _, _ => false
theorem absV_inv {v : V} {u : Value} (h : absV u = some v) : RelV v u := by
  cases u <;> simp only [absV] at h <;> first | (cases h; done) | (injection h with h; subst h; first | exact rfl | exact ⟨_, rfl⟩)
theorem vals_abs : ∀ {us : List Value} {xs : List V}, us.map absV = xs.map some → Vals xs us
  | [], [], _ => .nil
  | [], _ :: _, h => by cases h
  | _ :: _, [], h => by cases h
  | u :: us, x :: xs, h => by
    rw [List.map_cons, List.map_cons, List.cons.injEq] at h
    exact .cons (absV_inv h.1) (vals_abs h.2)
theorem sqT_written {K : PySem.W.Frag} {H : Hp} {a : Addr} {o : Obj} {ns : List Int} (h : K.lookup a = some o) (t : tupInts o ns = true) : SqT K H a (ns.map V.int) := by
  obtain ⟨cl, dd, dt, sl⟩ := o
  unfold tupInts at t
  split at t
  · rename_i its n e1 e2
    rw [Bool.and_eq_true] at t
    have h1 := of_decide_eq_true t.1
    have h2 := of_decide_eq_true t.2
    refine .inr ⟨_, its, n, h, e1, e2, Nat.le_trans h1 (by decide), vals_abs ?_⟩
    rw [h2, List.map_map]
    rfl
  · cases t
/-! ### steps of my own -/
local macro_rules | `(tactic| walk_at "ex") => `(tactic| first | assumption | exact Ex.refl _ | (apply Ex.trans; rotate_left; assumption; walk_at "ex"))
local macro_rules | `(tactic| walk_at "sv") => `(tactic| assumption)
local macro_rules | `(tactic| walk_at "sq") => `(tactic| first | assumption | (apply ex_t; rotate_left; assumption; walk_at "ex") | (apply ex_l; rotate_left; assumption; walk_at "ex") | (refine st_of ?_; assumption) | (refine sq_of ?_; assumption))
local macro_rules | `(tactic| walk_at "ty") => `(tactic| first | exact fun _ _ => .base (.int _) | exact fun _ _ => .base (.bl _) | exact fun _ _ => .base (.str _) | exact fun _ _ => .base .non | exact fun _ ez => tyx_tup (ex_t ez (by walk_at "sq")) | exact fun _ ez => tyx_lst (ex_l ez (by walk_at "sq")))
local macro_rules | `(tactic| walk_at "pos") => `(tactic| first | (show (0 : Int) < _; decide) | exact ⟨by decide, by decide⟩ | exact ⟨by decide, by decide, by decide⟩ | (show (0 : Int) < _; omega) | (refine ⟨?_, ?_⟩ <;> omega) | (refine Or.inl ⟨?_, ?_⟩ <;> omega) | (refine Or.inr ⟨?_, ?_⟩ <;> omega) | (show (0 : Int) < _; decide +kernel))
local macro_rules | `(tactic| walk_at "rv") => `(tactic| first
  | with_reducible exact rv_I0
  | ((with_reducible apply rv_I); walk_at "pos")
  | ((with_reducible apply rv_eq); exact rfl)
  | ((with_reducible apply rv_ne); exact rfl)
  | ((with_reducible apply rv_ixT); (focus (walk_at "sq")); exact rfl)
  | ((with_reducible apply rv_ixL); (focus (walk_at "sq")); exact rfl))
local macro_rules | `(tactic| walk_at "rc") => `(tactic| first
  | ((with_reducible apply rc_isi (b := true)); (focus (walk_at "ty")); decide +kernel)
  | ((with_reducible apply rc_isi (b := false)); (focus (walk_at "ty")); decide +kernel)
  | (apply rc_lenT; walk_at "sq")
  | (apply rc_lenL; walk_at "sq")
  | exact rc_max2
  | exact rc_min2)
local macro_rules | `(tactic| walk_at "ev") => `(tactic| first
  | ((with_reducible apply ev_var); exact rfl)
  | with_reducible exact ev_c
  | with_reducible exact ea_nil
  | ((with_reducible apply ea_cons) <;> walk_at "ev")
  | ((with_reducible apply ev_op); (focus (walk_at "ev")); (focus (walk_at "ev")); walk_at "rv")
  | ((with_reducible apply ev_cb); (focus (walk_at "ev")); walk_at "rc")
  | ((with_reducible apply et_test); walk_at "ev")
  | ((with_reducible apply et_B); walk_at "ev")
  | ((with_reducible apply et_not); walk_at "ev")
  | ((with_reducible apply ev_notV); walk_at "ev")
  | ((with_reducible apply ev_ifI) <;> walk_at "ev")
  | ((with_reducible apply et_or); (focus (walk_at "ev")); (intro _; walk_at "ev"))
  | ((with_reducible apply et_and); (focus (walk_at "ev")); (intro _; walk_at "ev"))
  | ((with_reducible apply ev_orV); (focus (walk_at "ev")); (intro _; walk_at "ev"))
  | ((with_reducible apply ev_andV); (focus (walk_at "ev")); (intro _; walk_at "ev"))
  | walk_at "xc")
local macro_rules | `(tactic| walk_at "xc") => `(tactic| ((with_reducible apply ev_call); (focus (walk_at "ev")); (focus (walk_at "sv"))))
local macro_rules | `(tactic| walk_at "xv") => `(tactic| first
  | assumption
  | ((with_reducible apply x_tupM); (focus (walk_at "ev")); exact Nat.le_of_ble_eq_true rfl)
  | ((with_reducible apply x_varT); (focus (exact rfl)); walk_at "sq")
  | ((with_reducible apply x_varL); (focus (exact rfl)); walk_at "sq")
  | ((with_reducible apply x_ev); walk_at "ev"))

def top (i : Nat) : Stmt := PySem.Challenge.pw_gossipcount_k02_shares_beside.main.body.getD i (.Pass ⟨0, 0, 0, 0⟩)
abbrev s_reaches : Stmt := top 1
theorem sc_reaches : FnScope ["one", "other"] ["one", "other"] (defScope s_reaches) := ⟨rfl, rfl, rfl, by decide +kernel, rfl, by decide +kernel, by decide +kernel⟩
abbrev s_net : Stmt := top 2
theorem sc_net : FnScope ["share"] ["share"] (defScope s_net) := ⟨rfl, rfl, rfl, by decide +kernel, rfl, by decide +kernel, by decide +kernel⟩
abbrev s_law_cell_at : Stmt := top 4
theorem sc_law_cell_at : FnScope ["_law_script", "_law_k"] ["_law_script", "_law_k"] (defScope s_law_cell_at) := ⟨rfl, rfl, rfl, by decide +kernel, rfl, by decide +kernel, by decide +kernel⟩
abbrev s_law_whole : Stmt := top 5
theorem sc_law_whole : FnScope ["_law_found"] ["_law_found"] (defScope s_law_whole) := ⟨rfl, rfl, rfl, by decide +kernel, rfl, by decide +kernel, by decide +kernel⟩
abbrev s_law_number_by : Stmt := top 6
theorem sc_law_number_by : FnScope ["_law_cell", "_law_kind"] ["_law_cell"] (defScope s_law_number_by) := ⟨rfl, rfl, rfl, by decide +kernel, rfl, by decide +kernel, by decide +kernel⟩
abbrev s_law_truth : Stmt := top 7
theorem sc_law_truth : FnScope ["_law_found", "_law_due"] ["_law_found", "_law_due"] (defScope s_law_truth) := ⟨rfl, rfl, rfl, by decide +kernel, rfl, by decide +kernel, by decide +kernel⟩
abbrev s_law : Stmt := top 8
theorem sc_law : FnScope ["_law_script", "_law_a", "_law_b", "_law_c", "_law_d", "_law_kind", "_law_one", "_law_other"] ["_law_script"] (defScope s_law) := ⟨rfl, rfl, rfl, by decide +kernel, rfl, by decide +kernel, by decide +kernel⟩
structure Txt (K : PySem.W.Frag) (mg : Str → Option Value) where
  a_reaches : Addr
  d_reaches : FuncData
  h_reaches : Has K mg "reaches" s_reaches ["one", "other"] a_reaches d_reaches
  a_net : Addr
  d_net : FuncData
  h_net : Has K mg "net" s_net ["share"] a_net d_net
  a_law_cell_at : Addr
  d_law_cell_at : FuncData
  h_law_cell_at : Has K mg "_law_cell_at" s_law_cell_at ["_law_script", "_law_k"] a_law_cell_at d_law_cell_at
  a_law_whole : Addr
  d_law_whole : FuncData
  h_law_whole : Has K mg "_law_whole" s_law_whole ["_law_found"] a_law_whole d_law_whole
  a_law_number_by : Addr
  d_law_number_by : FuncData
  h_law_number_by : Has K mg "_law_number_by" s_law_number_by ["_law_cell"] a_law_number_by d_law_number_by
  a_law_truth : Addr
  d_law_truth : FuncData
  h_law_truth : Has K mg "_law_truth" s_law_truth ["_law_found", "_law_due"] a_law_truth d_law_truth
  a_law : Addr
  d_law : FuncData
  h_law : Has K mg "law" s_law ["_law_script"] a_law d_law
  n_bool : mg "bool" = none
  n_int : mg "int" = none
  n_isinstance : mg "isinstance" = none
  n_len : mg "len" = none
  n_max : mg "max" = none
  n_min : mg "min" = none
def spLaw (K : PySem.W.Frag) : Sp := fun vs H Q _ => ∃ (a : Addr) (ns : List Int), vs = [.ref a] ∧ SqL K H a (ns.map V.int) ∧ ns.length ≤ 63 ∧ ∀ H', Q (.bl true) H'
def numBy (c : Int) : Int := if c % 5 < 2 then c / 5 % 3 * (c % 5) else if c % 5 = 2 then c / 5 % 1000 else if c % 5 = 3 then c / 5 % (10 ^ (60 : Int).toNat) else 10 ^ (60 : Int).toNat - 1 - c / 5 % 1000
section
variable {P : Program} {w : World} {K : PySem.W.Frag} {mg : Str → Option Value} {base : Heap}
abbrev spNum : Sp := SpF (fun c : Int => [.int c]) (fun _ _ => True) (fun c _ => Is (.int (numBy c)))
theorem sv_num {c : Int} {H : Hp} : SpV spNum [.int c] H (.int (numBy c)) := sv_of (sx_of c (fun _ _ => trivial) fun _ _ _ _ _ h => h)
theorem ok_law_number_by (T : Txt K mg) : FnOk P w K mg base CX0 1 T.a_law_number_by T.d_law_number_by ["_law_cell"] spNum := by
  refine T.h_law_number_by.F.ok sc_law_number_by (fun vs H Q E h => ?_) (fun cdv A outer s H vs Q E hr h => ?_)
  · obtain ⟨c, rfl, _⟩ := h
    rfl
  · obtain ⟨c, rfl, _, k⟩ := h
    refine ⟨_, (pss_cons (ps_set (i := 1) sc_law_number_by.nd rfl (by first | exact Or.inl rfl | exact Or.inr rfl) (pe_op op_mod (pv 0) pe_int)) (pss_cons (ps_if (pt_cmpR op_lt (pv 1) pe_int (nomark _)) (pss_one (ps_ret (pe_op op_mul (pe_op op_mod (pe_op op_fdiv (pv 0) pe_int) pe_int) (pv 1)))) pss_nil) (pss_cons (ps_if (pt_cmpR op_eq (pv 1) pe_int (nomark _)) (pss_one (ps_ret (pe_op op_mod (pe_op op_fdiv (pv 0) pe_int) pe_int))) pss_nil) (pss_cons (ps_if (pt_cmpR op_eq (pv 1) pe_int (nomark _)) (pss_one (ps_ret (pe_op op_mod (pe_op op_fdiv (pv 0) pe_int) (pe_op op_pow pe_int pe_int)))) pss_nil) (pss_one (ps_ret (pe_op op_sub (pe_op op_sub (pe_op op_pow pe_int pe_int) pe_int) (pe_op op_mod (pe_op op_fdiv (pv 0) pe_int) pe_int)))))))), ?_⟩
    refine q_asg (by walk_at "ev") fun H1 e1 => ?_
    refine q_when (by walk_at "ev") (fun hb H2 e2 => ?_) (fun hb H2 e2 => ?_)
    · refine s_ret (by walk_at "ev") fun H3 e3 => ?_
      refine k _ _ (by walk_at "ex") ?_
      show _ = _
      rw [numBy, if_pos (of_decide_eq_true hb)]
    refine q_when (by walk_at "ev") (fun hc H3 e3 => ?_) (fun hc H3 e3 => ?_)
    · refine s_ret (by walk_at "ev") fun H4 e4 => ?_
      refine k _ _ (by walk_at "ex") ?_
      show _ = _
      rw [numBy, if_neg (of_decide_eq_false hb), if_pos (V.int.inj (of_decide_eq_true hc))]
    refine q_when (by walk_at "ev") (fun hd H4 e4 => ?_) (fun hd H4 e4 => ?_)
    · refine s_ret (by walk_at "ev") fun H5 e5 => ?_
      refine k _ _ (by walk_at "ex") ?_
      show _ = _
      rw [numBy, if_neg (of_decide_eq_false hb), if_neg (fun z => of_decide_eq_false hc (congrArg V.int z)), if_pos (V.int.inj (of_decide_eq_true hd))]
    · refine s_ret (by walk_at "ev") fun H5 e5 => ?_
      refine k _ _ (by walk_at "ex") ?_
      show _ = _
      rw [numBy, if_neg (of_decide_eq_false hb), if_neg (fun z => of_decide_eq_false hc (congrArg V.int z)), if_neg (fun z => of_decide_eq_false hd (congrArg V.int z))]
end
local macro_rules | `(tactic| walk_at "sv") => `(tactic| exact sv_num)

def cellAt (ns : List Int) (k : Int) : Int := ns[k.toNat]?.getD 0
section
variable {P : Program} {w : World} {K : PySem.W.Frag} {mg : Str → Option Value} {base : Heap}
abbrev spCell (K : PySem.W.Frag) : Sp := SpF (fun x : Addr × List Int × Int => [.ref x.1, .int x.2.2]) (fun x H => SqL K H x.1 (x.2.1.map V.int) ∧ 0 ≤ x.2.2) (fun x _ => Is (.int (cellAt x.2.1 x.2.2)))
theorem sv_cell {H : Hp} {a : Addr} {ns : List Int} {k : Int} (h : SqL K H a (ns.map V.int)) (hk : 0 ≤ k) : SpV (spCell K) [.ref a, .int k] H (.int (cellAt ns k)) := sv_of (sx_of (a, ns, k) (fun _ e => ⟨ex_l e h, hk⟩) fun _ _ _ _ _ h => h)
theorem ok_law_cell_at (T : Txt K mg) : FnOk P w K mg base CX0 1 T.a_law_cell_at T.d_law_cell_at ["_law_script", "_law_k"] (spCell K) := by
  refine T.h_law_cell_at.F.ok sc_law_cell_at (fun vs H Q E h => ?_) (fun cdv A outer s H vs Q E hr h => ?_)
  · obtain ⟨c, rfl, _⟩ := h
    rfl
  · obtain ⟨⟨a, ns, j⟩, rfl, ⟨hs, hj⟩, k⟩ := h
    simp only at hs hj k
    refine ⟨_, (pss_cons (ps_if (pt_cmpR op_lt (pv 1) (pe_callB call_len_seq (by rfl) T.n_len PySem.boot_len (pa_cons (pv 0) pa_nil)) (nomark _)) (pss_one (ps_ret (pe_ix ix_list (pv 0) (pv 1) (fun _ _ => rfl)))) pss_nil) (pss_one (ps_ret pe_int))), ?_⟩
    refine q_when (by walk_at "ev") (fun hb H2 e2 => ?_) (fun hb H2 e2 => ?_)
    · have hb' : j < ((ns.map V.int).length : Int) := of_decide_eq_true hb
      rw [List.length_map] at hb'
      have hlt : j.toNat < ns.length := by omega
      have e0 : ((j.toNat : Nat) : Int) = j := by omega
      refine s_ret (ev_op (ev_var rfl) (ev_var rfl) (rv_ixL (xs := ns.map V.int) (v := .int (cellAt ns j)) (ex_l e2 hs) ?_)) fun H3 e3 => k _ _ (by walk_at "ex") rfl
      show atI (ns.map V.int) j = _
      rw [← e0]
      refine atI_nat ?_
      rw [List.getElem?_map, List.getElem?_eq_getElem hlt]
      unfold cellAt
      rw [e0, List.getElem?_eq_getElem hlt]
      rfl
    · have hb' : ¬ j < ((ns.map V.int).length : Int) := of_decide_eq_false hb
      rw [List.length_map] at hb'
      refine s_ret ev_c fun H3 e3 => k _ _ (by walk_at "ex") ?_
      show _ = _
      rw [cellAt, List.getElem?_eq_none (by omega)]
      rfl
end
local macro_rules | `(tactic| walk_at "sv") => `(tactic| exact sv_cell (by walk_at "sq") (by decide))

section
variable {P : Program} {w : World} {K : PySem.W.Frag} {mg : Str → Option Value} {base : Heap}
abbrev spWhole : Sp := SpF (fun c : Int => [.int c]) (fun _ _ => True) (fun c _ => Is (.bl true))
theorem sv_whole {c : Int} {H : Hp} : SpV spWhole [.int c] H (.bl true) := sv_of (sx_of c (fun _ _ => trivial) fun _ _ _ _ _ h => h)
theorem ok_law_whole (T : Txt K mg) : FnOk P w K mg base CX0 1 T.a_law_whole T.d_law_whole ["_law_found"] spWhole := by
  refine T.h_law_whole.F.ok sc_law_whole (fun vs H Q E h => ?_) (fun cdv A outer s H vs Q E hr h => ?_)
  · obtain ⟨c, rfl, _⟩ := h
    rfl
  · obtain ⟨c, rfl, _, k⟩ := h
    refine ⟨_, (pss_one (ps_ret (pe_and (pe_callB call_isi (by rfl) T.n_isinstance (by decide +kernel) (pa_cons (pv 0) (pa_cons (pe_bltn (v := .ty "int") (u := .type "int") (by rfl) T.n_int (by decide +kernel) rfl) pa_nil))) (pe_one (pe_not (pe_callB call_isi (by rfl) T.n_isinstance (by decide +kernel) (pa_cons (pv 0) (pa_cons (pe_bltn (v := .ty "bool") (u := .type "bool") (by rfl) T.n_bool (by decide +kernel) rfl) pa_nil)))))))), ?_⟩
    refine s_ret (by walk_at "ev") fun H3 e3 => ?_
    exact k _ _ (by walk_at "ex") rfl

end
local macro_rules | `(tactic| walk_at "sv") => `(tactic| exact sv_whole)

section
variable {P : Program} {w : World} {K : PySem.W.Frag} {mg : Str → Option Value} {base : Heap}
abbrev spTruth : Sp := SpF (fun x : Bool × Bool => [.bl x.1, .bl x.2]) (fun _ _ => True) (fun x H => Is (.bl (decide (V.bl x.1 = V.bl x.2))))
theorem sv_truth {a b : Bool} {H : Hp} : SpV spTruth [.bl a, .bl b] H (.bl (decide (V.bl a = V.bl b))) := sv_of (sx_of (a, b) (fun _ _ => trivial) fun _ _ _ _ _ h => h)
theorem ok_law_truth (T : Txt K mg) : FnOk P w K mg base CX0 1 T.a_law_truth T.d_law_truth ["_law_found", "_law_due"] spTruth := by
  refine T.h_law_truth.F.ok sc_law_truth (fun vs H Q E h => ?_) (fun cdv A outer s H vs Q E hr h => ?_)
  · obtain ⟨c, rfl, _⟩ := h
    rfl
  · obtain ⟨⟨a, b⟩, rfl, _, k⟩ := h
    simp only at k
    refine ⟨_, (pss_one (ps_ret (pe_and (pe_callB call_isi (by rfl) T.n_isinstance (by decide +kernel) (pa_cons (pv 0) (pa_cons (pe_bltn (v := .ty "bool") (u := .type "bool") (by rfl) T.n_bool (by decide +kernel) rfl) pa_nil))) (pe_one (pe_cmpR op_eq (pv 0) (pv 1) (nomark _)))))), ?_⟩
    refine s_ret (by walk_at "ev") fun H1 e1 => ?_
    refine k _ _ e1 ?_
    show _ = _
    simp
end
local macro_rules | `(tactic| walk_at "sv") => `(tactic| exact sv_truth)

section
variable {P : Program} {w : World} {K : PySem.W.Frag} {mg : Str → Option Value} {base : Heap}
abbrev spReaches (K : PySem.W.Frag) : Sp := SpF (fun x : (Addr × Addr) × (Int × Int) × Int × Int => [.ref x.1.1, .ref x.1.2]) (fun x H => SqT K H x.1.1 [.int x.2.1.1, .int x.2.1.2] ∧ SqT K H x.1.2 [.int x.2.2.1, .int x.2.2.2]) (fun x H => Is (.bl (decide (x.2.2.1 ≤ x.2.1.1) && decide (x.2.2.2 ≤ x.2.1.2))))
theorem ok_reaches (T : Txt K mg) : FnOk P w K mg base CX0 1 T.a_reaches T.d_reaches ["one", "other"] (spReaches K) := by
  refine T.h_reaches.F.ok sc_reaches (fun vs H Q E h => ?_) (fun cdv A outer s H vs Q E hr h => ?_)
  · obtain ⟨c, rfl, _⟩ := h
    rfl
  · obtain ⟨⟨⟨p, q⟩, ⟨a, b⟩, c, d⟩, rfl, ⟨hp, hq⟩, k⟩ := h
    simp only at hp hq k
    refine ⟨_, (pss_one (ps_ret (pe_and (pe_cmpR op_ge (pe_ix ix_tup (pv 0) pe_int (fun _ _ => rfl)) (pe_ix ix_tup (pv 1) pe_int (fun _ _ => rfl)) (nomark _)) (pe_one (pe_cmpR op_ge (pe_ix ix_tup (pv 0) pe_int (fun _ _ => rfl)) (pe_ix ix_tup (pv 1) pe_int (fun _ _ => rfl)) (nomark _)))))), ?_⟩
    refine s_ret (by walk_at "ev") fun H1 e1 => ?_
    exact k _ _ e1 rfl
theorem x_reaches {σ : L2.St} {H : Hp} {ta tb : TE} {E : XK} {a b c d : Int} (h1 : EvX ta σ H (Tp K [.int a, .int b])) (h2 : EvX tb σ H (Tp K [.int c, .int d])) :
    Ev (tCall (spReaches K) [] E (tCons ta (tCons tb tNil))) σ H (.bl (decide (c ≤ a) && decide (d ≤ b))) := ev_x (x_call2 h1 h2 (by
  rintro _ _ H1 e ⟨p, rfl, hp⟩ ⟨q, rfl, hq⟩
  exact sx_of ((p, q), (a, b), c, d) (fun H2 e2 => ⟨ex_t e2 hp, ex_t e2 hq⟩) fun _ _ _ _ _ h => h))
end
local macro_rules | `(tactic| walk_at "xc") => `(tactic| ((with_reducible apply x_reaches); (focus (walk_at "xv")); (focus (walk_at "xv"))))

section
variable {P : Program} {w : World} {K : PySem.W.Frag} {mg : Str → Option Value} {base : Heap}
abbrev spNet (K : PySem.W.Frag) : Sp := SpF (fun x : Addr × Int × Int => [.ref x.1]) (fun x H => SqT K H x.1 [.int x.2.1, .int x.2.2]) (fun x H => Is (.int (x.2.1 - x.2.2)))
theorem ok_net (T : Txt K mg) : FnOk P w K mg base CX0 1 T.a_net T.d_net ["share"] (spNet K) := by
  refine T.h_net.F.ok sc_net (fun vs H Q E h => ?_) (fun cdv A outer s H vs Q E hr h => ?_)
  · obtain ⟨c, rfl, _⟩ := h
    rfl
  · obtain ⟨⟨p, a, b⟩, rfl, hp, k⟩ := h
    simp only at hp k
    refine ⟨_, (pss_one (ps_ret (pe_op op_sub (pe_ix ix_tup (pv 0) pe_int (fun _ _ => rfl)) (pe_ix ix_tup (pv 0) pe_int (fun _ _ => rfl))))), ?_⟩
    refine s_ret (by walk_at "ev") fun H1 e1 => ?_
    exact k _ _ e1 rfl
theorem x_net {σ : L2.St} {H : Hp} {ta : TE} {E : XK} {a b : Int} (h1 : EvX ta σ H (Tp K [.int a, .int b])) : Ev (tCall (spNet K) [] E (tCons ta tNil)) σ H (.int (a - b)) := ev_x (x_call1 h1 (by
  rintro _ H1 e ⟨p, rfl, hp⟩
  exact sx_of (p, a, b) (fun H2 e2 => ex_t e2 hp) fun _ _ _ _ _ h => h))
end
local macro_rules | `(tactic| walk_at "xc") => `(tactic| ((with_reducible apply x_net); (focus (walk_at "xv"))))

section
variable {P : Program} {w : World} {K : PySem.W.Frag} {mg : Str → Option Value} {base : Heap}
theorem ok_law (T : Txt K mg) : FnOk P w K mg base CX0 2 T.a_law T.d_law ["_law_script"] (spLaw K) := by
  refine T.h_law.F.ok sc_law (fun vs H Q E h => ?_) (fun cdv A outer s H vs Q E hr h => ?_)
  · obtain ⟨a, ns, rfl, _⟩ := h
    rfl
  · obtain ⟨l, ns, rfl, hl, _, k⟩ := h
    refine ⟨_, (pss_cons (ps_set (i := 1) sc_law.nd rfl (by first | exact Or.inl rfl | exact Or.inr rfl) (pe_call (ok_law_number_by T) (hr.mono (by decide)) rfl T.h_law_number_by.m T.h_law_number_by.F.kp T.h_law_number_by.b .nil pass0 (pa_cons (pe_call (ok_law_cell_at T) (hr.mono (by decide)) rfl T.h_law_cell_at.m T.h_law_cell_at.F.kp T.h_law_cell_at.b .nil pass0 (pa_cons (pv 0) (pa_cons pe_int pa_nil))) pa_nil))) (pss_cons (ps_set (i := 2) sc_law.nd rfl (by first | exact Or.inl rfl | exact Or.inr rfl) (pe_call (ok_law_number_by T) (hr.mono (by decide)) rfl T.h_law_number_by.m T.h_law_number_by.F.kp T.h_law_number_by.b .nil pass0 (pa_cons (pe_call (ok_law_cell_at T) (hr.mono (by decide)) rfl T.h_law_cell_at.m T.h_law_cell_at.F.kp T.h_law_cell_at.b .nil pass0 (pa_cons (pv 0) (pa_cons pe_int pa_nil))) pa_nil))) (pss_cons (ps_set (i := 3) sc_law.nd rfl (by first | exact Or.inl rfl | exact Or.inr rfl) (pe_call (ok_law_number_by T) (hr.mono (by decide)) rfl T.h_law_number_by.m T.h_law_number_by.F.kp T.h_law_number_by.b .nil pass0 (pa_cons (pe_call (ok_law_cell_at T) (hr.mono (by decide)) rfl T.h_law_cell_at.m T.h_law_cell_at.F.kp T.h_law_cell_at.b .nil pass0 (pa_cons (pv 0) (pa_cons pe_int pa_nil))) pa_nil))) (pss_cons (ps_set (i := 4) sc_law.nd rfl (by first | exact Or.inl rfl | exact Or.inr rfl) (pe_call (ok_law_number_by T) (hr.mono (by decide)) rfl T.h_law_number_by.m T.h_law_number_by.F.kp T.h_law_number_by.b .nil pass0 (pa_cons (pe_call (ok_law_cell_at T) (hr.mono (by decide)) rfl T.h_law_cell_at.m T.h_law_cell_at.F.kp T.h_law_cell_at.b .nil pass0 (pa_cons (pv 0) (pa_cons pe_int pa_nil))) pa_nil))) (pss_cons (ps_set (i := 5) sc_law.nd rfl (by first | exact Or.inl rfl | exact Or.inr rfl) (pe_call (ok_law_cell_at T) (hr.mono (by decide)) rfl T.h_law_cell_at.m T.h_law_cell_at.F.kp T.h_law_cell_at.b .nil pass0 (pa_cons (pv 0) (pa_cons pe_int pa_nil)))) (pss_cons (ps_if (pt_cmpR op_gt (pe_op op_mod (pv 5) pe_int) pe_int (nomark _)) (pss_cons (ps_set (i := 3) sc_law.nd rfl (by first | exact Or.inl rfl | exact Or.inr rfl) (pe_callB (call_min2 rfl) (by rfl) T.n_min (by decide +kernel) (pa_cons (pe_callB (call_max2 rfl) (by rfl) T.n_max (by decide +kernel) (pa_cons (pe_op op_sub (pe_op op_add (pv 1) (pe_op op_mod (pv 5) pe_int)) pe_int) (pa_cons pe_int pa_nil))) (pa_cons (pe_op op_sub (pe_op op_pow pe_int pe_int) pe_int) pa_nil)))) (pss_one (ps_set (i := 4) sc_law.nd rfl (by first | exact Or.inl rfl | exact Or.inr rfl) (pe_callB (call_min2 rfl) (by rfl) T.n_min (by decide +kernel) (pa_cons (pe_callB (call_max2 rfl) (by rfl) T.n_max (by decide +kernel) (pa_cons (pe_op op_sub (pe_op op_add (pv 2) (pe_op op_mod (pe_op op_fdiv (pv 5) pe_int) pe_int)) pe_int) (pa_cons pe_int pa_nil))) (pa_cons (pe_op op_sub (pe_op op_pow pe_int pe_int) pe_int) pa_nil)))))) pss_nil) (pss_cons (ps_if (PW.pt (pw_or (pt_not (pt_val (pe_call (ok_law_truth T) (hr.mono (by decide)) rfl T.h_law_truth.m T.h_law_truth.F.kp T.h_law_truth.b .nil pass0 (pa_cons (pe_call (ok_reaches T) (hr.mono (by decide)) rfl T.h_reaches.m T.h_reaches.F.kp T.h_reaches.b .nil pass0 (pa_cons (pe_tup (pa_cons (pv 1) (pa_cons (pv 2) pa_nil))) (pa_cons (pe_tup (pa_cons (pv 3) (pa_cons (pv 4) pa_nil))) pa_nil))) (pa_cons (pe_and (pe_cmpR op_le (pv 3) (pv 1) (nomark _)) (pe_one (pe_cmpR op_le (pv 4) (pv 2) (nomark _)))) pa_nil))))) (pw_or1 (pt_not (pt_val (pe_call (ok_law_truth T) (hr.mono (by decide)) rfl T.h_law_truth.m T.h_law_truth.F.kp T.h_law_truth.b .nil pass0 (pa_cons (pe_call (ok_reaches T) (hr.mono (by decide)) rfl T.h_reaches.m T.h_reaches.F.kp T.h_reaches.b .nil pass0 (pa_cons (pe_tup (pa_cons (pv 1) (pa_cons (pv 2) pa_nil))) (pa_cons (pe_tup (pa_cons (pv 1) (pa_cons (pv 2) pa_nil))) pa_nil))) (pa_cons pe_bl pa_nil)))))))) (pss_one (ps_ret pe_bl)) pss_nil) (pss_cons (ps_if (pt_not (pt_val (pe_call (ok_law_truth T) (hr.mono (by decide)) rfl T.h_law_truth.m T.h_law_truth.F.kp T.h_law_truth.b .nil pass0 (pa_cons (pe_call (ok_reaches T) (hr.mono (by decide)) rfl T.h_reaches.m T.h_reaches.F.kp T.h_reaches.b .nil pass0 (pa_cons (pe_tup (pa_cons (pv 3) (pa_cons (pv 4) pa_nil))) (pa_cons (pe_tup (pa_cons (pv 1) (pa_cons (pv 2) pa_nil))) pa_nil))) (pa_cons (pe_and (pe_cmpR op_le (pv 1) (pv 3) (nomark _)) (pe_one (pe_cmpR op_le (pv 2) (pv 4) (nomark _)))) pa_nil))))) (pss_one (ps_ret pe_bl)) pss_nil) (pss_cons (ps_set (i := 6) sc_law.nd rfl (by first | exact Or.inl rfl | exact Or.inr rfl) (pe_call (ok_net T) (hr.mono (by decide)) rfl T.h_net.m T.h_net.F.kp T.h_net.b .nil pass0 (pa_cons (pe_tup (pa_cons (pv 1) (pa_cons (pv 2) pa_nil))) pa_nil))) (pss_cons (ps_set (i := 7) sc_law.nd rfl (by first | exact Or.inl rfl | exact Or.inr rfl) (pe_call (ok_net T) (hr.mono (by decide)) rfl T.h_net.m T.h_net.F.kp T.h_net.b .nil pass0 (pa_cons (pe_tup (pa_cons (pv 3) (pa_cons (pv 4) pa_nil))) pa_nil))) (pss_one (ps_ret (pe_and (pe_call (ok_law_whole T) (hr.mono (by decide)) rfl T.h_law_whole.m T.h_law_whole.F.kp T.h_law_whole.b .nil pass0 (pa_cons (pv 6) pa_nil)) (pe_and (pe_call (ok_law_whole T) (hr.mono (by decide)) rfl T.h_law_whole.m T.h_law_whole.F.kp T.h_law_whole.b .nil pass0 (pa_cons (pv 7) pa_nil)) (pe_and (pe_cmpR op_eq (pe_op op_add (pv 6) (pv 2)) (pv 1) (nomark _)) (pe_one (pe_cmpR op_eq (pe_op op_add (pv 7) (pv 4)) (pv 3) (nomark _)))))))))))))))))), ?_⟩
    refine q_asg (by walk_at "ev") fun H1 e1 => ?_
    refine q_asg (by walk_at "ev") fun H2 e2 => ?_
    refine q_asg (by walk_at "ev") fun H3 e3 => ?_
    refine q_asg (by walk_at "ev") fun H4 e4 => ?_
    refine q_asg (by walk_at "ev") fun H5 e5 => ?_
    generalize numBy (cellAt ns 0) = a
    generalize numBy (cellAt ns 1) = b
    generalize numBy (cellAt ns 2) = c
    generalize numBy (cellAt ns 3) = d
    generalize cellAt ns 4 = kind
    refine q_when (by walk_at "ev") (fun hb H6 e6 => ?_) (fun hb H6 e6 => ?_)
    focus
      refine q_asg (by walk_at "ev") fun H7 e7 => ?_
      refine s_asg (by walk_at "ev") fun H8 e8 => ?_
      have e9 : Ex H5 H8 := by walk_at "ex"
      clear e8 e7 e6
      generalize (if 10 ^ Int.toNat 60 - 1 < if 0 > a + kind % 4 - 2 then 0 else a + kind % 4 - 2 then 10 ^ Int.toNat 60 - 1 else if 0 > a + kind % 4 - 2 then 0 else a + kind % 4 - 2) = c'
      generalize (if 10 ^ Int.toNat 60 - 1 < if 0 > b + kind / 4 % 3 - 1 then 0 else b + kind / 4 % 3 - 1 then 10 ^ Int.toNat 60 - 1 else if 0 > b + kind / 4 % 3 - 1 then 0 else b + kind / 4 % 3 - 1) = d'
      revert c' d'
      intro c d
      dsimp only
    all_goals
      refine q_when (by walk_at "ev") (fun hc H10 e11 => ?_) (fun hc H10 e11 => ?_)
      · exact absurd hc (by simp)
      refine q_when (by walk_at "ev") (fun hd H11 e12 => ?_) (fun hd H11 e12 => ?_)
      · exact absurd hd (by simp)
      refine q_asg (by walk_at "ev") fun H12 e13 => ?_
      refine q_asg (by walk_at "ev") fun H13 e14 => ?_
      refine s_ret (by walk_at "ev") fun H14 e15 => ?_
      have := k H14
      simpa using this
end
theorem all_mk {l : PySem.W.OpenLaw} {w : World} {K : PySem.W.Frag} {h : Heap} {mg : Str → Option Value} {fa : Addr} (X : K.In h) (G : h.Ns mainGlobals mg) (hfa : mg "law" = some (.ref fa))
    {f0 : Addr} {od0 an0 : Option Addr} {sl0 : Array (Option Value)} {oc0 kV0 dc0 pm0 cd0 ct0 : Value}
    {f1 : Addr} {od1 an1 : Option Addr} {sl1 : Array (Option Value)} {oc1 kV1 dc1 pm1 cd1 ct1 : Value}
    {f2 : Addr} {od2 an2 : Option Addr} {sl2 : Array (Option Value)} {oc2 kV2 dc2 pm2 cd2 ct2 : Value}
    {f3 : Addr} {od3 an3 : Option Addr} {sl3 : Array (Option Value)} {oc3 kV3 dc3 pm3 cd3 ct3 : Value}
    {f4 : Addr} {od4 an4 : Option Addr} {sl4 : Array (Option Value)} {oc4 kV4 dc4 pm4 cd4 ct4 : Value}
    {f5 : Addr} {od5 an5 : Option Addr} {sl5 : Array (Option Value)} {oc5 kV5 dc5 pm5 cd5 ct5 : Value}
    {f6 : Addr} {od6 an6 : Option Addr} {sl6 : Array (Option Value)} {oc6 kV6 dc6 pm6 cd6 ct6 : Value}
    (a0 : PySem.W.nsIn K mainGlobals "reaches" = some (some (.ref f0))) (l0 : K.lookup f0 = some ⟨oc0, od0, .func (PySem.W.fnOf "reaches" "reaches" (defArgs s_reaches) (defBody s_reaches) (defScope s_reaches) .none kV0 dc0 pm0 an0 cd0 ct0), sl0⟩) (c0 : PySem.W.codeIn K cd0 "reaches" = true) (k0 : PySem.W.keepIn K (.ref f0) = true)
    (a1 : PySem.W.nsIn K mainGlobals "net" = some (some (.ref f1))) (l1 : K.lookup f1 = some ⟨oc1, od1, .func (PySem.W.fnOf "net" "net" (defArgs s_net) (defBody s_net) (defScope s_net) .none kV1 dc1 pm1 an1 cd1 ct1), sl1⟩) (c1 : PySem.W.codeIn K cd1 "net" = true) (k1 : PySem.W.keepIn K (.ref f1) = true)
    (a2 : PySem.W.nsIn K mainGlobals "_law_cell_at" = some (some (.ref f2))) (l2 : K.lookup f2 = some ⟨oc2, od2, .func (PySem.W.fnOf "_law_cell_at" "_law_cell_at" (defArgs s_law_cell_at) (defBody s_law_cell_at) (defScope s_law_cell_at) .none kV2 dc2 pm2 an2 cd2 ct2), sl2⟩) (c2 : PySem.W.codeIn K cd2 "_law_cell_at" = true) (k2 : PySem.W.keepIn K (.ref f2) = true)
    (a3 : PySem.W.nsIn K mainGlobals "_law_whole" = some (some (.ref f3))) (l3 : K.lookup f3 = some ⟨oc3, od3, .func (PySem.W.fnOf "_law_whole" "_law_whole" (defArgs s_law_whole) (defBody s_law_whole) (defScope s_law_whole) .none kV3 dc3 pm3 an3 cd3 ct3), sl3⟩) (c3 : PySem.W.codeIn K cd3 "_law_whole" = true) (k3 : PySem.W.keepIn K (.ref f3) = true)
    (a4 : PySem.W.nsIn K mainGlobals "_law_number_by" = some (some (.ref f4))) (l4 : K.lookup f4 = some ⟨oc4, od4, .func (PySem.W.fnOf "_law_number_by" "_law_number_by" (defArgs s_law_number_by) (defBody s_law_number_by) (defScope s_law_number_by) .none kV4 dc4 pm4 an4 cd4 ct4), sl4⟩) (c4 : PySem.W.codeIn K cd4 "_law_number_by" = true) (k4 : PySem.W.keepIn K (.ref f4) = true)
    (a5 : PySem.W.nsIn K mainGlobals "_law_truth" = some (some (.ref f5))) (l5 : K.lookup f5 = some ⟨oc5, od5, .func (PySem.W.fnOf "_law_truth" "_law_truth" (defArgs s_law_truth) (defBody s_law_truth) (defScope s_law_truth) .none kV5 dc5 pm5 an5 cd5 ct5), sl5⟩) (c5 : PySem.W.codeIn K cd5 "_law_truth" = true) (k5 : PySem.W.keepIn K (.ref f5) = true)
    (a6 : PySem.W.nsIn K mainGlobals "law" = some (some (.ref f6))) (l6 : K.lookup f6 = some ⟨oc6, od6, .func (PySem.W.fnOf "law" "law" (defArgs s_law) (defBody s_law) (defScope s_law) .none kV6 dc6 pm6 an6 cd6 ct6), sl6⟩) (c6 : PySem.W.codeIn K cd6 "law" = true) (k6 : PySem.W.keepIn K (.ref f6) = true)
    (z_bool : PySem.W.nsIn K mainGlobals "bool" = some none)
    (z_int : PySem.W.nsIn K mainGlobals "int" = some none)
    (z_isinstance : PySem.W.nsIn K mainGlobals "isinstance" = some none)
    (z_len : PySem.W.nsIn K mainGlobals "len" = some none)
    (z_max : PySem.W.nsIn K mainGlobals "max" = some none)
    (z_min : PySem.W.nsIn K mainGlobals "min" = some none) :
    ∃ fd : FuncData, (∀ (s : Shared) (v : Value), BindsTo s fd ⟨[v], []⟩ [("_law_script", v)]) ∧ ∀ base : Heap, K.In base → base.Ns mainGlobals mg → FnOk l.prog w K mg base CX0 2 fa fd ["_law_script"] (spLaw K) := by
  have e := hfa.symm.trans (PySem.W.mg_of X G a6)
  cases e
  have F0 := fun_mk (st := s_reaches) l0 c0 k0
  have b0 := F0.binds (ps := ["one", "other"]) fun _ _ _ _ _ _ us hl => match us, hl with | [_, _], _ => rfl
  have F1 := fun_mk (st := s_net) l1 c1 k1
  have b1 := F1.binds (ps := ["share"]) fun _ _ _ _ _ _ us hl => match us, hl with | [_], _ => rfl
  have F2 := fun_mk (st := s_law_cell_at) l2 c2 k2
  have b2 := F2.binds (ps := ["_law_script", "_law_k"]) fun _ _ _ _ _ _ us hl => match us, hl with | [_, _], _ => rfl
  have F3 := fun_mk (st := s_law_whole) l3 c3 k3
  have b3 := F3.binds (ps := ["_law_found"]) fun _ _ _ _ _ _ us hl => match us, hl with | [_], _ => rfl
  have F4 := fun_mk (st := s_law_number_by) l4 c4 k4
  have b4 := F4.binds (ps := ["_law_cell"]) fun _ _ _ _ _ _ us hl => match us, hl with | [_], _ => rfl
  have F5 := fun_mk (st := s_law_truth) l5 c5 k5
  have b5 := F5.binds (ps := ["_law_found", "_law_due"]) fun _ _ _ _ _ _ us hl => match us, hl with | [_, _], _ => rfl
  have F6 := fun_mk (st := s_law) l6 c6 k6
  have b6 := F6.binds (ps := ["_law_script"]) fun _ _ _ _ _ _ us hl => match us, hl with | [_], _ => rfl
  let T : Txt K mg := { a_reaches := f0, d_reaches := _, h_reaches := ⟨PySem.W.mg_of X G a0, F0, b0⟩, a_net := f1, d_net := _, h_net := ⟨PySem.W.mg_of X G a1, F1, b1⟩, a_law_cell_at := f2, d_law_cell_at := _, h_law_cell_at := ⟨PySem.W.mg_of X G a2, F2, b2⟩, a_law_whole := f3, d_law_whole := _, h_law_whole := ⟨PySem.W.mg_of X G a3, F3, b3⟩, a_law_number_by := f4, d_law_number_by := _, h_law_number_by := ⟨PySem.W.mg_of X G a4, F4, b4⟩, a_law_truth := f5, d_law_truth := _, h_law_truth := ⟨PySem.W.mg_of X G a5, F5, b5⟩, a_law := fa, d_law := _, h_law := ⟨PySem.W.mg_of X G a6, F6, b6⟩, n_bool := PySem.W.mg_none_of X G z_bool, n_int := PySem.W.mg_none_of X G z_int, n_isinstance := PySem.W.mg_none_of X G z_isinstance, n_len := PySem.W.mg_none_of X G z_len, n_max := PySem.W.mg_none_of X G z_max, n_min := PySem.W.mg_none_of X G z_min }
  exact ⟨_, fun s v => .of_eq rfl, fun base _ _ => ok_law T⟩
theorem walk {l : PySem.W.OpenLaw} {q : Program} {loose : List Str} {XP : (Str → Option Value) → Heap → Prop} {YP : World → Heap → Prop} {d : DefRec} {K : Params → PySem.W.Frag} (hn : l.most = some 63) (hdf : d.params.defaults = [])
    (hY : ∀ (w : World) (h : Heap), YP w h → (K w.params).In h)
    (F : ∀ (w : World) (mg : Str → Option Value) (fa : Addr) (h : Heap), (K w.params).In h → h.Ns mainGlobals mg → mg d.name = some (.ref fa) →
      ∃ fd : FuncData, (∀ (s : Shared) (u : Value), BindsTo s fd ⟨[u], []⟩ [("_law_script", u)]) ∧ ∀ base : Heap, (K w.params).In base → base.Ns mainGlobals mg → FnOk l.prog w (K w.params) mg base CX0 2 fa fd ["_law_script"] (spLaw (K w.params))) :
    PySem.W.WalkO q loose XP YP l.row.toRowW d [] (fun f vs => PySem.call f vs) :=
  L2.walk_of (n := 63) (k := 2) (x := "_law_script") (CX := fun _ => CX0) (sp := fun w => spLaw (K w.params)) hn (by decide) hdf ⟨rfl, by decide, by decide⟩ hY F (fun _ _ a ns hl _ hS => ⟨a, ns, rfl, hS, hl, fun _ => rfl⟩) fun _ _ _ _ _ z => z
end GC
open PySem PySem.W PyProof.Rows
set_option maxRecDepth 100000 in
set_option maxHeartbeats 0 in
theorem PySem.Challenge.cw_gossipcount_k02_shares_beside_holds : PySem.Challenge.rw_gossipcount_k02_shares_beside.Holds := by
  w_on; o_law; k_head; (case hw => w_witness2)
  k_fill
  refine GC.walk (l := PySem.Challenge.rw_gossipcount_k02_shares_beside) rfl rfl (fun w h Y => PySem.W.kIn_of Y) ?F
  case F =>
    intro w mg fa h KX G hmg
    refine' GC.all_mk KX G hmg ?a0 ?l0 ?c0 ?k0 ?a1 ?l1 ?c1 ?k1 ?a2 ?l2 ?c2 ?k2 ?a3 ?l3 ?c3 ?k3 ?a4 ?l4 ?c4 ?k4 ?a5 ?l5 ?c5 ?k5 ?a6 ?l6 ?c6 ?k6 ?z_bool ?z_int ?z_isinstance ?z_len ?z_max ?z_min
    (case a0 => k_is)
    (case l0 => k_is)
    (case c0 => k_is)
    (case k0 => k_is)
    (case a1 => k_is)
    (case l1 => k_is)
    (case c1 => k_is)
    (case k1 => k_is)
    (case a2 => k_is)
    (case l2 => k_is)
    (case c2 => k_is)
    (case k2 => k_is)
    (case a3 => k_is)
    (case l3 => k_is)
    (case c3 => k_is)
    (case k3 => k_is)
    (case a4 => k_is)
    (case l4 => k_is)
    (case c4 => k_is)
    (case k4 => k_is)
    (case a5 => k_is)
    (case l5 => k_is)
    (case c5 => k_is)
    (case k5 => k_is)
    (case a6 => k_is)
    (case l6 => k_is)
    (case c6 => k_is)
    (case k6 => k_is)
    (case z_bool => k_is)
    (case z_int => k_is)
    (case z_isinstance => k_is)
    (case z_len => k_is)
    (case z_max => k_is)
    (case z_min => k_is)
