import PyProof.Rows.All
import Wide.All
import OpenK.AllK
import Wide.FinOn
import HandS.ForMost
import HandS.Evl
import HandS.IsInst
import HandS.Style
import HandS.DictComp
import HandS.SortInts
import HandS.SetKeys

import HandS.Walk
import HandS.FStr
import HandS.Codes
import HandS.Set
import HandS.SetFor
import HandS.WordsExc
import HandS.ExcIs
import HandS.HotCalls
import KE.RegKIsAll
import KE.GoesEnum
import PySem.Challenge.RW_gossipcount_k10_read
set_option Elab.async false
set_option linter.all false
set_option maxRecDepth 100000
set_option maxHeartbeats 4000000
namespace GC
open PySem
/-! ### every slot of a set's table is met: i to 5 i + 1 -/
def lcg (N : Nat) : Nat → Nat → Nat
  | 0, i => i
  | m + 1, i => lcg N m ((i * 5 + 1) % N)
def orb (N : Nat) : Nat → Nat → Nat → Nat
  | 0, _, acc => acc
  | n + 1, x, acc => orb N n ((x * 5 + 1) % N) (acc ||| (1 <<< x))
theorem orb_bit {N : Nat} : ∀ {n x acc j : Nat}, (orb N n x acc).testBit j = true → acc.testBit j = true ∨ ∃ m, m < n ∧ lcg N m x = j
  | 0, _, _, _, h => .inl h
  | n + 1, x, acc, j, h => by
    rcases orb_bit (n := n) h with h | ⟨m, h1, h2⟩
    · rw [Nat.testBit_or, Bool.or_eq_true] at h
      rcases h with h | h
      · exact .inl h
      · refine .inr ⟨0, Nat.succ_pos _, ?_⟩
        rw [Nat.one_shiftLeft, Nat.testBit_two_pow] at h
        exact of_decide_eq_true h
    · exact .inr ⟨m + 1, Nat.succ_lt_succ h1, h2⟩
theorem lcg_add {N : Nat} : ∀ (a b i : Nat), lcg N (a + b) i = lcg N b (lcg N a i)
  | 0, b, i => by rw [Nat.zero_add]; rfl
  | a + 1, b, i => by
    rw [Nat.succ_add]
    exact lcg_add a b _
def goodN (N : Nat) : Bool := decide (orb N N 0 0 = 2 ^ N - 1) && decide (lcg N N 0 = 0)
theorem lcg_all {N : Nat} (h : goodN N = true) {i j : Nat} (hi : i < N) (hj : j < N) : ∃ m, m < N ∧ lcg N m i = j := by
  unfold goodN at h
  rw [Bool.and_eq_true] at h
  have h1 := of_decide_eq_true h.1
  have h2 := of_decide_eq_true h.2
  have all : ∀ j, j < N → ∃ m, m < N ∧ lcg N m 0 = j := fun j hj => by
    have : (orb N N 0 0).testBit j = true := by rw [h1, Nat.testBit_two_pow_sub_one]; exact decide_eq_true hj
    rcases orb_bit this with h | h
    · simp at h
    · exact h
  obtain ⟨a, ha, ea⟩ := all i hi
  obtain ⟨b, hb, eb⟩ := all j hj
  rcases Nat.le_total a b with hab | hab
  · refine ⟨b - a, by omega, ?_⟩
    rw [← ea, ← lcg_add, show a + (b - a) = b by omega, eb]
  · rcases Nat.eq_or_lt_of_le hab with e | lt
    · exact ⟨0, by omega, by rw [← ea, ← e, ← eb]; rfl⟩
    · refine ⟨N - a + b, by omega, ?_⟩
      rw [← ea, ← lcg_add, show a + (N - a + b) = N + b by omega, lcg_add, h2, eb]
theorem good_sizes : ∀ N ∈ [8, 16, 32, 64, 128, 256, 512, 1024, 2048], goodN N = true := by decide +kernel
/-- the steps of a search: the slot and what is left of the hash -/
def leaps (mask : Nat) : Nat → Nat × Nat → Nat × Nat
  | 0, p => p
  | m + 1, p => leaps mask m (SetTable.leap mask p.1 p.2)
theorem leaps_zero {mask : Nat} : ∀ (m i : Nat), leaps mask m (i, 0) = (lcg (mask + 1) m i, 0)
  | 0, _ => rfl
  | m + 1, i => by
    show leaps mask m (SetTable.leap mask i 0) = _
    unfold SetTable.leap
    rw [Nat.zero_div, Nat.add_zero]
    exact leaps_zero m _
theorem leaps_add {mask : Nat} : ∀ (a b : Nat) (p : Nat × Nat), leaps mask (a + b) p = leaps mask b (leaps mask a p)
  | 0, b, p => by rw [Nat.zero_add]; rfl
  | a + 1, b, p => by
    rw [Nat.succ_add]
    exact leaps_add a b _
theorem leaps_pert {mask : Nat} : ∀ (m : Nat) (p : Nat × Nat), (leaps mask m p).2 = p.2 / 32 ^ m
  | 0, p => by rw [Nat.pow_zero, Nat.div_one]; rfl
  | m + 1, p => by
    show (leaps mask m _).2 = _
    rw [leaps_pert m]
    show p.2 / 32 / 32 ^ m = _
    rw [Nat.div_div_eq_div_mul, ← Nat.pow_succ']
theorem leaps_lt {mask : Nat} : ∀ (m : Nat) (p : Nat × Nat), p.1 < mask + 1 → (leaps mask m p).1 < mask + 1
  | 0, _, h => h
  | m + 1, p, _ => leaps_lt m _ (Nat.mod_lt _ (Nat.succ_pos _))
theorem leaps_all {mask : Nat} (h : goodN (mask + 1) = true) {p : Nat × Nat} (h1 : p.1 < mask + 1) (h2 : p.2 < 2 ^ 64) {j : Nat} (hj : j < mask + 1) : ∃ m, m < SetTable.turns mask ∧ (leaps mask m p).1 = j := by
  have hp : (leaps mask 13 p).2 = 0 := by
    rw [leaps_pert]
    exact Nat.div_eq_of_lt (Nat.lt_of_lt_of_le h2 (by decide))
  obtain ⟨m, hm, e⟩ := lcg_all h (leaps_lt 13 p h1) hj
  refine ⟨13 + m, by unfold SetTable.turns; omega, ?_⟩
  rw [leaps_add]
  have : leaps mask 13 p = ((leaps mask 13 p).1, 0) := by rw [← hp]
  rw [this, leaps_zero]
  exact e
/-- a free slot is found -/
theorem free_none {mask : Nat} {owner : Array (Option Nat)} : ∀ (fuel i pert : Nat), i ≤ mask → SetTable.layClean.free mask owner fuel i pert = none → ∀ m, m < fuel → (owner.getD (leaps mask m (i, pert)).1 (some 0)).isNone = false
  | 0, _, _, _, _, m, h => absurd h (Nat.not_lt_zero _)
  | fuel + 1, i, pert, hi, h, m, hm => by
    unfold SetTable.layClean.free at h
    split at h
    · cases h
    · rename_i e
      cases m with
      | zero =>
        have h0 := List.find?_eq_none.mp e 0 (List.mem_range.mpr (by unfold SetTable.runEnd; split <;> omega))
        rw [Nat.add_zero, Bool.not_eq_true] at h0
        exact h0
      | succ m => exact free_none fuel _ _ (Nat.le_of_lt_succ (Nat.mod_lt _ (Nat.succ_pos _))) h m (Nat.lt_of_succ_lt_succ hm)
theorem free_some {mask : Nat} {owner : Array (Option Nat)} : ∀ (fuel i pert : Nat) {j : Nat}, i ≤ mask → SetTable.layClean.free mask owner fuel i pert = some j → j ≤ mask ∧ (owner.getD j (some 0)).isNone = true
  | 0, _, _, _, _, h => by cases h
  | fuel + 1, i, pert, j, hi, h => by
    unfold SetTable.layClean.free at h
    split at h
    · rename_i k e
      obtain rfl := Option.some.inj h
      have h1 := List.mem_of_find?_eq_some e
      have h2 := List.find?_some (p := fun k => (owner.getD (i + k) (some 0)).isNone) e
      have h3 := List.mem_range.mp h1
      refine ⟨?_, h2⟩
      unfold SetTable.runEnd at h3
      split at h3 <;> omega
    · exact free_some fuel _ _ (Nat.le_of_lt_succ (Nat.mod_lt _ (Nat.succ_pos _))) h
theorem free_is {mask : Nat} {owner : Array (Option Nat)} (h : goodN (mask + 1) = true) {i pert j : Nat} (hi : i ≤ mask) (hp : pert < 2 ^ 64) (hj : j ≤ mask) (hn : (owner.getD j (some 0)).isNone = true) :
    ∃ j', SetTable.layClean.free mask owner (SetTable.turns mask) i pert = some j' ∧ j' ≤ mask ∧ (owner.getD j' (some 0)).isNone = true := by
  cases c : SetTable.layClean.free mask owner (SetTable.turns mask) i pert with
  | some j' => exact ⟨j', rfl, free_some _ _ _ hi c⟩
  | none =>
    obtain ⟨m, hm, e⟩ := leaps_all h (p := (i, pert)) (Nat.lt_succ_of_le hi) hp (Nat.lt_succ_of_le hj)
    have := free_none _ _ _ hi c m hm
    rw [e, hn] at this
    cases this

/-! ### a table laid anew holds all its elements -/
theorem fm_set {α : Type} : ∀ {l : List (Option α)} {j : Nat} {k : α}, l[j]? = some none → ((l.set j (some k)).filterMap id).Perm (k :: l.filterMap id)
  | [], j, _, h => by simp at h
  | a :: r, 0, k, h => by
    obtain rfl : a = none := Option.some.inj h
    rw [List.set_cons_zero, List.filterMap_cons, List.filterMap_cons]
    exact List.Perm.refl _
  | a :: r, j + 1, k, h => by
    have ih := fm_set (l := r) (j := j) (k := k) (by simpa using h)
    rw [List.set_cons_succ, List.filterMap_cons, List.filterMap_cons]
    cases a with
    | none => exact ih
    | some x => exact (ih.cons x).trans (List.Perm.swap _ _ _)
theorem fm_free {α : Type} : ∀ {l : List (Option α)}, (l.filterMap id).length < l.length → ∃ j, j < l.length ∧ l[j]? = some none
  | [], h => by simp at h
  | none :: r, _ => ⟨0, by simp, rfl⟩
  | some x :: r, h => by
    rw [List.filterMap_cons] at h
    obtain ⟨j, h1, h2⟩ := fm_free (l := r) (by simpa using h)
    exact ⟨j + 1, by simpa using h1, by simpa using h2⟩
theorem range_getD {α : Type} {a : Array (Option α)} : (List.range a.size).map (fun j => a.getD j none) = a.toList := by
  refine List.ext_getElem? fun i => ?_
  rw [List.getElem?_map]
  by_cases h : i < a.size
  · rw [List.getElem?_range h]
    simp [h]
  · rw [List.getElem?_eq_none (by simp; omega), List.getElem?_eq_none (by simp; omega)]
    rfl
theorem bits_lt (h : Int) : SetTable.bits h < 2 ^ 64 := by
  unfold SetTable.bits
  have h1 := Int.emod_nonneg h (show (2 ^ 64 : Int) ≠ 0 by decide)
  have h2 := Int.emod_lt_of_pos h (show (0 : Int) < 2 ^ 64 by decide)
  omega
theorem getD_none {a : Array (Option Nat)} {j : Nat} : (a.getD j (some 0)).isNone = true ↔ a.toList[j]? = some none := by
  rw [Array.getD_eq_getD_getElem?, Array.getElem?_toList]
  cases a[j]? with
  | none => simp
  | some x => simp
/-- how the table is laid, hash by hash -/
def layStep (mask : Nat) (acc : Option (Array (Option Nat) × Nat)) (h : Int) : Option (Array (Option Nat) × Nat) := do
  let (owner, k) ← acc
  let j ← SetTable.layClean.free mask owner (SetTable.turns mask) (SetTable.bits h % (mask + 1)) (SetTable.bits h)
  pure (owner.setIfInBounds j (some k), k + 1)
theorem lay_fold {mask : Nat} (hg : goodN (mask + 1) = true) : ∀ (hs : List Int) (owner : Array (Option Nat)) (k : Nat), owner.size = mask + 1 → (owner.toList.filterMap id).Perm (List.range k) → k + hs.length ≤ mask →
    ∃ owner', hs.foldl (layStep mask) (some (owner, k)) = some (owner', k + hs.length) ∧ owner'.size = mask + 1 ∧ (owner'.toList.filterMap id).Perm (List.range (k + hs.length))
  | [], owner, k, h1, h2, _ => ⟨owner, rfl, h1, h2⟩
  | h :: hs, owner, k, h1, h2, h3 => by
    rw [List.length_cons] at h3
    obtain ⟨j, hj1, hj2⟩ := fm_free (l := owner.toList) (by rw [h2.length_eq, List.length_range, Array.length_toList, h1]; omega)
    rw [Array.length_toList, h1] at hj1
    obtain ⟨j', e, hj', hn'⟩ := free_is (mask := mask) (owner := owner) hg (i := SetTable.bits h % (mask + 1)) (pert := SetTable.bits h) (Nat.le_of_lt_succ (Nat.mod_lt _ (Nat.succ_pos _))) (bits_lt h) (Nat.le_of_lt_succ hj1) (getD_none.mpr hj2)
    have step : layStep mask (some (owner, k)) h = some (owner.setIfInBounds j' (some k), k + 1) := by
      unfold layStep
      show (do let j ← SetTable.layClean.free mask owner _ _ _; pure _ : Option _) = _
      rw [e]
      rfl
    obtain ⟨owner', f1, f2, f3⟩ := lay_fold hg hs (owner.setIfInBounds j' (some k)) (k + 1) (by rw [Array.size_setIfInBounds, h1]) (by
      rw [Array.toList_setIfInBounds]
      refine (fm_set (getD_none.mp hn')).trans ?_
      rw [List.range_succ]
      exact (h2.cons k).trans (List.perm_append_comm (l₁ := [k]) (l₂ := List.range k))) (by omega)
    refine ⟨owner', ?_, f2, ?_⟩
    · rw [List.foldl_cons, step, f1, List.length_cons]
      congr 2
      omega
    · rw [List.length_cons, show k + (hs.length + 1) = k + 1 + hs.length by omega]
      exact f3
theorem laid_ok {mask finger moves : Nat} {led plain : Bool} {hs : Array Int} (hg : goodN (mask + 1) = true) (hl : hs.size ≤ mask) :
    ∃ t order, SetTable.laid mask finger moves led plain hs = some (t, order) ∧ order.toList.Perm (List.range hs.size) ∧ t.mask = mask ∧ t.place.size = hs.size ∧ t.dummies = #[] ∧ t.finger = finger ∧ t.led = led ∧ t.plain = plain ∧ L2.Ris t.place.toList := by
  obtain ⟨owner, h1, h2, h3⟩ := lay_fold hg hs.toList (Array.replicate (mask + 1) none) 0 (Array.size_replicate ..) (by
    have : ∀ n, ((List.replicate n (none : Option Nat)).filterMap id) = [] := fun n => by
      induction n with
      | zero => rfl
      | succ n ih => rw [List.replicate_succ, List.filterMap_cons]; exact ih
    rw [Array.toList_replicate, this]
    exact List.Perm.refl _) (by simpa using hl)
  rw [Nat.zero_add, Array.length_toList] at h1 h3
  have hc : SetTable.layClean mask hs = some owner := by
    unfold SetTable.layClean
    show (Array.foldl (layStep mask) (some (Array.replicate (mask + 1) none, 0)) hs).map (·.1) = _
    rw [← Array.foldl_toList, h1]
    rfl
  have ho : ((List.range (mask + 1)).filterMap fun j => (owner.getD j none).map (j, ·)).map (·.2) = owner.toList.filterMap id := by
    rw [← range_getD, h2, List.map_filterMap, List.filterMap_map]
    congr 1
    funext j
    show Option.map _ (Option.map _ _) = _
    rw [Option.map_map]
    show Option.map (fun x => x) _ = owner.getD j none
    cases owner.getD j none <;> rfl
  refine ⟨_, _, by unfold SetTable.laid; rw [hc]; rfl, ?_, rfl, ?_, rfl, rfl, rfl, rfl, (L2.ris_live (fun j => owner.getD j none) (List.range (mask + 1)) (by unfold L2.Ris; first | exact List.pairwise_lt_range | exact List.pairwise_lt_range _)).1⟩
  · rw [ho]
    exact h3
  · have := congrArg List.length ho
    rw [List.length_map, h3.length_eq, List.length_range] at this
    show ((List.map _ _).toArray).size = _
    rw [List.size_toArray, List.length_map, this]
/-- all the elements, in another order -/
theorem order_perm {α : Type} {es : Array α} {order : Array Nat} (h : order.toList.Perm (List.range es.size)) : (order.filterMap (es[·]?)).toList.Perm es.toList := by
  rw [Array.toList_filterMap]
  refine (h.filterMap _).trans ?_
  have : ∀ l : List α, (List.range l.length).filterMap (l[·]?) = l := fun l => by
    induction l with
    | nil => rfl
    | cons a r ih =>
      rw [List.length_cons, List.range_succ_eq_map, List.filterMap_cons, List.filterMap_map]
      show a :: _ = _
      congr 1
  have e := this es.toList
  rw [Array.length_toList] at e
  have e2 : (fun x : Nat => es[x]?) = fun x : Nat => es.toList[x]? := by funext x; rw [Array.getElem?_toList]
  rw [e2, e]

/-! ### a set of scannable keys, its table kept walkable -/
section
variable {prog : Program} {w : World} {κ : Type} [DecidableEq κ] (knd : KeyKind prog w κ)
def GoodT (S : κ → Bool) (n : Nat) (es : Array (Int × Value)) (t : SetTable) : Prop :=
  ElemsOf knd es.toList ∧ (∀ k, S k = true ↔ ∃ e ∈ es.toList, knd.is k e.2 = true) ∧ es.size < scanBound ∧ t.fits es.size = true ∧ es.size = n ∧ L2.Ris t.place.toList ∧ (w.params.followText "set-order" = true ∨ t.led = true)
def TSet (h : Heap) (a : Addr) (S : κ → Bool) (n : Nat) : Prop := ∃ o es ep t, h.get? a = some o ∧ o.ExactSet ∧ o.data = .set es ep t ∧ GoodT knd S n es t
variable {knd} {A : Around} {E : Value → Shared → Prop} {s : Shared} {a : Addr} {S : κ → Bool} {n : Nat}
theorem GoodT.perm {es es' : Array (Int × Value)} {t t' : SetTable} (h : GoodT knd S n es t) (p : es'.toList.Perm es.toList) (hf : t'.fits es'.size = true) (hr : L2.Ris t'.place.toList) (hl : t.led = true → t'.led = true) : GoodT knd S n es' t' := by
  obtain ⟨h1, h2, h3, h4, h5, h6, h7⟩ := h
  have hz : es'.size = es.size := by rw [← Array.length_toList, p.length_eq, Array.length_toList]
  exact ⟨h1.perm p, fun k => (h2 k).trans ⟨fun ⟨e, he, q⟩ => ⟨e, p.mem_iff.mpr he, q⟩, fun ⟨e, he, q⟩ => ⟨e, p.mem_iff.mp he, q⟩⟩, by rw [hz]; exact h3, hf, by rw [hz]; exact h5, hr, h7.imp id hl⟩
theorem tset_store {h : Heap} {o : Obj} {es es' : Array (Int × Value)} {ep : Nat} {t t' : SetTable} (ho : h.get? a = some o) (hex : o.ExactSet) (hd : o.data = .set es ep t) (g : GoodT knd S n es' t') :
    (h.update a (Obj.putSet es' t')).get? a = some { o with data := .set es' (ep + 1) t' } ∧ TSet knd (h.update a (Obj.putSet es' t')) a S n := by
  have hg : (h.update a (Obj.putSet es' t')).get? a = some { o with data := .set es' (ep + 1) t' } := by
    have := Heap.get?_update_self (Obj.putSet es' t') ho (by rw [putSet_of es' t' hd]; rfl)
    rw [putSet_of es' t' hd] at this
    exact this
  exact ⟨hg, _, es', ep + 1, t', hg, hex, rfl, g⟩
theorem GoodT.push {es es1 : Array (Int × Value)} {t t1 : SetTable} {k : κ} {x : Value} (h : GoodT knd S n es t) (hk : knd.is k x = true) (hx : x.scannable = true) (hroom : n + 1 < scanBound)
    (p : es1.toList.Perm (es.toList ++ [(knd.hash k, x)])) (hf : t1.fits es1.size = true) (hr : L2.Ris t1.place.toList) (hl : t1.led = t.led) : GoodT knd (fun k' => S k' || decide (k' = k)) (n + 1) es1 t1 := by
  obtain ⟨h1, h2, h3, h4, h5, h6, h7⟩ := h
  have hz : es1.size = n + 1 := by rw [← Array.length_toList, p.length_eq, List.length_append, Array.length_toList, h5]; rfl
  exact ⟨(h1.push hk hx).perm p, mem_push_iff hk h2 p, by rw [hz]; exact hroom, hf, hz, hr, h7.imp id fun z => by rw [hl]; exact z⟩
theorem GoodT.plainOff {es : Array (Int × Value)} {t : SetTable} (h : GoodT knd S n es t) : GoodT knd S n es { t with plain := false } := h.perm (List.Perm.refl _) (SetTable.fits_plain_off h.2.2.2.1) h.2.2.2.2.2.1 id
theorem GoodT.relay {es : Array (Int × Value)} {t : SetTable} (m : Nat) (h : GoodT knd S n es t) : GoodT knd S n (relayAll t es m).1 (relayAll t es m).2.1 :=
  h.perm (relayAll_perm t es m) (relayAll_fits t es m) (L2.relayAll_ris t es m) fun z => by rw [L2.relayAll_led]; exact z
theorem tset_tail {g : Bool → Sem Unit} (hg : ∀ (b : Bool) (s₁ : Shared) (Q' : Unit → Shared → Prop), Q' () s₁ → wpAny (model prog w) A (g b) Q' E s₁) {o : Obj} {es es1 : Array (Int × Value)} {ep : Nat} {t t2 : SetTable}
    (ho : s.heap.get? a = some o) (hex : o.ExactSet) (hd : o.data = .set es ep t) (gd : GoodT knd S n es1 t2) {wasDummy : Bool} {R : Option Bool → Shared → Prop}
    (h : ∀ h', Heap.SameBut a s.heap h' → TSet knd h' a S n → R (some true) { s with heap := h' }) :
    wpAny (model prog w) A (do
        storeSet a es1 t2
        if (!wasDummy && t2.tooFull) = true then do
            g (relayAll t2 es1 (SetTable.grown es1.size)).2.2
            storeSet a (relayAll t2 es1 (SetTable.grown es1.size)).1 (relayAll t2 es1 (SetTable.grown es1.size)).2.1
            pure (some true)
          else pure (some true)) R E s := by
  refine wpAny_bind (wpAny_storeSet_of ho hd ?_ (fits_of_scanBound gd.2.2.1))
  obtain ⟨ho1, hT⟩ := tset_store ho hex hd gd
  have sb := Heap.SameBut.update s.heap a (Obj.putSet es1 t2)
  split
  · have g2 := gd.relay (SetTable.grown es1.size)
    refine wpAny_bind (hg _ _ _ ?_)
    refine wpAny_bind (wpAny_storeSet_of ho1 rfl ?_ (fits_of_scanBound g2.2.2.1))
    exact wpAny_pure (h _ (sb.trans (Heap.SameBut.update _ a _)) (tset_store ho1 hex rfl g2).2)
  · exact wpAny_pure (h _ sb hT)
theorem tset_add {k : κ} {x : Value} {Q : Bool → Shared → Prop} (hk : knd.is k x = true) (hx : x.scannable = true) (R : TSet knd s.heap a S n) (hroom : n + 1 < scanBound)
    (h : ∀ b h' n', Heap.SameBut a s.heap h' → n' ≤ n + 1 → TSet knd h' a (fun k' => S k' || decide (k' = k)) n' → Q b { s with heap := h' }) :
    wpAny (model prog w) A (setAddHashed a x (knd.hash k)) Q E s := by
  obtain ⟨o, es, ep, t, ho, hex, hd, gd⟩ := R
  obtain ⟨hel, hmem, hb, hf, hn, hr, hl⟩ := id gd
  unfold setAddHashed setAddHashedIn
  refine wpAny_holding (wpAny_bind (wpAny_setState_of ho hd hf ?_))
  dsimp only
  rw [byScan_of hx hb hel]
  simp only [↓reduceIte]
  unfold setAddByScan
  refine wpAny_bind (wpAny_bind (wpAny_rule (wpAny_bind (wpAny_setScan_of hk ho hd hf hel ?_))))
  cases hi : List.findIdx? (fun e => knd.is k e.2) es.toList with
  | some j =>
    dsimp only
    obtain ⟨hj, hpj, _⟩ := List.findIdx?_eq_some_iff_getElem.mp hi
    have hSk : S k = true := (hmem k).mpr ⟨es.toList[j], List.getElem_mem hj, hpj⟩
    have same : (fun k' => S k' || decide (k' = k)) = S := by
      funext k'
      by_cases c : k' = k
      · rw [c, hSk]; rfl
      · rw [decide_eq_false c, Bool.or_false]
    refine wpAny_pure (wpAny_pure ?_)
    have := h false s.heap n (Heap.SameBut.refl a s.heap) (Nat.le_succ _) (by rw [same]; exact ⟨o, es, ep, t, ho, hex, hd, gd⟩)
    exact this
  | none =>
    dsimp only
    have gw : ∀ (b : Bool) {s₁ : Shared} {Q' : Unit → Shared → Prop}, Q' () s₁ → wpAny (model prog w) A (match b with | true => rule "set.scan.the-table-gave-way" | false => pure ()) Q' E s₁ :=
      fun b s₁ Q' q => by cases b <;> first | exact wpAny_pure q | exact wpAny_rule q
    have pm := layNew_perm t es (knd.hash k) x
    have hf1 := layNew_fits t es (knd.hash k) x
    have hr1 := L2.layNew_ris t es (knd.hash k) x hr
    have hl1 := L2.layNew_led t es (knd.hash k) x
    generalize layNew t es (knd.hash k) x = Z at pm hf1 hr1 hl1 ⊢
    obtain ⟨es1, t1, wasDummy, gave⟩ := Z
    dsimp only at pm hf1 hr1 hl1 ⊢
    rw [Array.toList_push] at pm
    have g1 := gd.push hk hx hroom pm hf1 hr1 hl1
    refine wpAny_bind (gw _ ?_)
    split
    · refine wpAny_bind ?_
      rw [hashByValue_scannable 8 hx]
      refine wpAny_pure ?_
      refine tset_tail (knd := knd) (S := fun k' => S k' || decide (k' = k)) (n := n + 1) (fun b s₁ Q' q => by cases b <;> first | exact wpAny_pure q | exact wpAny_rule q) ho hex hd ?_ fun h' sb r => ?_
      · split
        · exact g1
        · exact g1.plainOff
      · dsimp only
        exact wpAny_pure (h true h' (n + 1) sb (Nat.le_refl _) r)
    · refine wpAny_bind (wpAny_pure ?_)
      simp only [↓reduceIte]
      refine tset_tail (knd := knd) (S := fun k' => S k' || decide (k' = k)) (n := n + 1) (fun b s₁ Q' q => by cases b <;> first | exact wpAny_pure q | exact wpAny_rule q) ho hex hd g1 fun h' sb r => ?_
      dsimp only
      exact wpAny_pure (h true h' (n + 1) sb (Nat.le_refl _) r)
end

/-! ### room in a set -/
theorem above_ok : ∀ n < 2048, SetTable.sizeAbove n ∈ [8, 16, 32, 64, 128, 256, 512, 1024, 2048] ∧ n < SetTable.sizeAbove n := by decide +kernel
theorem above_good {n : Nat} (h : n < 2048) : goodN (SetTable.sizeAbove n - 1 + 1) = true ∧ n ≤ SetTable.sizeAbove n - 1 ∧ SetTable.sizeAbove n ≤ 2048 := by
  obtain ⟨h1, h2⟩ := above_ok n h
  have h3 : SetTable.sizeAbove n - 1 + 1 = SetTable.sizeAbove n := by omega
  refine ⟨by rw [h3]; exact good_sizes _ h1, by omega, ?_⟩
  simp only [List.mem_cons, List.not_mem_nil, or_false] at h1
  omega
section
variable {prog : Program} {w : World} {κ : Type} [DecidableEq κ] {knd : KeyKind prog w κ} {A : Around} {E : Value → Shared → Prop} {s : Shared} {a : Addr} {S : κ → Bool} {n : Nat}
theorem set_relay {wanted : Nat} {Q : Unit → Shared → Prop} {o : Obj} {es : Array (Int × Value)} {ep : Nat} {t : SetTable} (ho : s.heap.get? a = some o) (hex : o.ExactSet) (hd : o.data = .set es ep t) (g : GoodT knd S n es t) (hw : n ≤ wanted) (hb : wanted < 2048)
    (k : ∀ h' es' t', Heap.SameBut a s.heap h' → h'.get? a = some { o with data := .set es' (ep + 1) t' } → GoodT knd S n es' t' → t'.mask = SetTable.sizeAbove wanted - 1 → t'.dummies = #[] → Q () { s with heap := h' }) :
    wpAny (model prog w) A (setRelay a wanted) Q E s := by
  obtain ⟨hel, hmem, hbd, hf, hn, hr, hl⟩ := id g
  obtain ⟨a1, a2, a3⟩ := above_good hb
  obtain ⟨t', order, e1, e2, e3, e4, e5, e6, e7, e8, e9⟩ := laid_ok (mask := SetTable.sizeAbove wanted - 1) (finger := t.finger) (moves := t.movedTo (SetTable.sizeAbove wanted - 1)) (led := t.led) (plain := t.plain) (hs := es.map (·.1)) a1 (by rw [Array.size_map]; omega)
  rw [Array.size_map] at e2 e4
  have hrl : t.relaid (es.map (·.1)) wanted = some (t', order) := e1
  have hp := order_perm (es := es) e2
  have hz : (order.filterMap (es[·]?)).size = es.size := by rw [← Array.length_toList, hp.length_eq, Array.length_toList]
  have g' : GoodT knd S n (order.filterMap (es[·]?)) t' := g.perm hp (by
    unfold SetTable.fits SetTable.fill
    rw [e4, hz, e5, e3, Bool.and_eq_true, beq_iff_eq, decide_eq_true_eq]
    exact ⟨rfl, by show es.size + 0 ≤ _; omega⟩) (L2.relaid_ris hrl).1 fun z => by rw [(L2.relaid_ris hrl).2]; exact z
  unfold setRelay
  refine wpAny_bind (wpAny_setState_of ho hd hf ?_)
  dsimp only
  rw [if_neg (by rw [sizeLine_eq]; omega)]
  rw [hrl]
  refine wpAny_bind ?_
  show wpAny _ _ (@ite (Sem (Array (Int × Value) × SetTable)) (((order.filterMap (es[·]?)).size != es.size) = true) _ _ _) _ _ _
  rw [if_neg (by rw [hz]; simp)]
  refine wpAny_pure ?_
  refine wpAny_storeSet_of ho hd ?_ (fits_of_scanBound g'.2.2.1)
  have st := tset_store ho hex hd g'
  exact k _ _ _ (Heap.SameBut.update s.heap a _) st.1 g' e3 e5
theorem tset_room {more : Nat} {Q : Unit → Shared → Prop} (R : TSet knd s.heap a S n) (hb : (n + more) * 2 < 2048) (k : ∀ h', Heap.SameBut a s.heap h' → TSet knd h' a S n → Q () { s with heap := h' }) : wpAny (model prog w) A (setRoomFor a more) Q E s := by
  obtain ⟨o, es, ep, t, ho, hex, hd, g⟩ := R
  obtain ⟨hel, hmem, hbd, hf, hn, hr, hl⟩ := id g
  have hps : t.place.size = n := by
    unfold SetTable.fits at hf
    rw [Bool.and_eq_true, beq_iff_eq] at hf
    rw [hf.1, hn]
  unfold setRoomFor
  refine wpAny_bind (wpAny_setState_of ho hd hf ?_)
  dsimp only
  unfold SetTable.roomFor
  by_cases c : (t.fill + more) * 5 ≥ t.mask * 3
  · rw [if_pos c, hps]
    dsimp only
    exact set_relay ho hex hd g (by omega) hb fun h' es' t' sb hg g' _ _ => k h' sb ⟨_, es', ep + 1, t', hg, hex, rfl, g'⟩
  · rw [if_neg c]
    exact wpAny_pure (k s.heap (Heap.SameBut.refl a s.heap) ⟨o, es, ep, t, ho, hex, hd, g⟩)
end

/-! ### a set takes a dict's keys -/
section
variable {prog : Program} {w : World} {κ : Type} [DecidableEq κ] {knd : KeyKind prog w κ} {A : Around} {E : Value → Shared → Prop} {s : Shared} {a d : Addr} {S : κ → Bool} {n : Nat}
theorem TSet.cast {h : Heap} {S' : κ → Bool} (R : TSet knd h a S n) (e : ∀ k, S' k = S k) : TSet knd h a S' n := by
  have : S' = S := funext e
  rw [this]
  exact R
theorem upd_loop {nm : String} {od : Obj} {es : Array DictEntry} {ep : Nat} {Q : Unit → Shared → Prop} (R : TSet knd s.heap a S n) (hne : d ≠ a) (hod : s.heap.get? d = some od) (hdd : od.data = .dict es ep)
    (hk : ∀ e ∈ es.toList, ∃ k, knd.is k e.key = true ∧ e.hash = knd.hash k ∧ e.key.scannable = true) (hb : n + es.size + 1 < scanBound)
    (k : ∀ h' n', Heap.SameBut a s.heap h' → n' ≤ n + es.size → TSet knd h' a (fun j => S j || es.toList.any fun e => knd.is j e.key) n' → Q () { s with heap := h' }) :
    wpAny (model prog w) A (forIn [:es.size] PUnit.unit fun i (_ : PUnit) => (do
          let l' ← dictEntries d
          match l'[i]? with
            | some e => do
              let _ ← holding [e.key] (setAddHashed a e.key e.hash)
              let ep' ← dictEpoch d
              if (ep' != ep) = true then do
                  (unsupported (toString nm ++ toString ":changed-during-callback") : Sem PUnit)
                  pure (ForInStep.yield PUnit.unit)
                else pure (ForInStep.yield PUnit.unit)
            | _ => do
              (unsupported "internal:set-from-dict" : Sem PUnit)
              pure (ForInStep.yield PUnit.unit) : Sem (ForInStep PUnit))) Q E s := by
  rw [Std.Legacy.Range.forIn_eq_forIn_range']
  simp only [Std.Legacy.Range.size, Nat.sub_zero, Nat.add_sub_cancel, Nat.div_one]
  refine wpAny_forIn_list _
    (fun rest _ s' => ∃ h' i n', s' = { s with heap := h' } ∧ rest = List.range' i (es.size - i) ∧ i ≤ es.size ∧ Heap.SameBut a s.heap h' ∧ n' ≤ n + i ∧ TSet knd h' a (fun j => S j || (es.toList.take i).any fun e => knd.is j e.key) n')
    _ ?_ ?_ _ _ ⟨s.heap, 0, n, rfl, by simp, Nat.zero_le _, Heap.SameBut.refl _ _, Nat.le_refl _, R.cast fun j => by simp⟩
  · rintro x rest b s' ⟨h', i, n', rfl, hr, hi, sb, hn, R'⟩
    have hlt : i < es.size := by
      rcases Nat.lt_or_ge i es.size with h | h
      · exact h
      · rw [Nat.sub_eq_zero_of_le h] at hr
        simp at hr
    have e : es.size - i = (es.size - (i + 1)) + 1 := by omega
    rw [e, List.range'_succ] at hr
    injection hr with h1 h2
    subst h1
    have hod' : h'.get? d = some od := (sb.2 d hne).trans hod
    refine wpAny_bind (wpAny_dictEntries hod' hdd ?_)
    rw [Array.getElem?_eq_getElem hlt]
    obtain ⟨kk, k1, k2, k3⟩ := hk es[x] (by rw [← Array.getElem_toList]; exact List.getElem_mem _)
    show wpAny _ _ (holding [es[x].key] (setAddHashed a es[x].key es[x].hash) >>= _) _ _ _
    rw [k2]
    refine wpAny_bind (wpAny_holding (tset_add (s := { s with heap := h' }) k1 k3 R' (by omega) fun b h'' n'' sb' hn' R'' => ?_))
    have hod'' : h''.get? d = some od := (sb'.2 d hne).trans hod'
    refine wpAny_bind (wpAny_dictEpoch hod'' hdd ?_)
    rw [if_neg (by simp)]
    refine wpAny_pure ⟨h'', x + 1, n'', rfl, h2, hlt, sb.trans sb', by omega, R''.cast fun j => ?_⟩
    have ht : es.toList.take (x + 1) = es.toList.take x ++ [es[x]] := by
      rw [List.take_succ, Array.getElem?_toList, Array.getElem?_eq_getElem hlt]
      rfl
    have hj : knd.is j es[x].key = decide (j = kk) := KeyKind.is_eq_decide k1 j
    rw [ht, List.any_append, List.any_cons, List.any_nil, Bool.or_false, hj, Bool.or_assoc]
  · rintro b s' ⟨h', i, n', rfl, hr, hi, sb, hn, R'⟩
    have hin : i = es.size := by
      rcases Nat.lt_or_ge i es.size with h | h
      · have e : es.size - i = (es.size - (i + 1)) + 1 := by omega
        rw [e, List.range'_succ] at hr
        exact nomatch hr
      · exact Nat.le_antisymm hi h
    subst hin
    refine k h' n' sb hn (R'.cast fun j => ?_)
    rw [List.take_of_length_le (by simp)]
end

section
variable {prog : Program} {w : World} {κ : Type} [DecidableEq κ] {knd : KeyKind prog w κ} {A : Around} {E : Value → Shared → Prop} {s : Shared} {a d : Addr} {S : κ → Bool} {n : Nat}
theorem any_set {v : Value} {T : String} {b : Bool} {Q : Bool → Shared → Prop} (hT : s.TypeIs v T) (h1 : isSubtype (.type T) (.type "set") = pure b) (h2 : b = false → isSubtype (.type T) (.type "frozenset") = pure false) (h : Q b s) : wpAny (model prog w) A (Builtin.Frozenset.isAnySet v) Q E s := by
  unfold Builtin.Frozenset.isAnySet orM
  refine wpAny_bind (wpAny_isInstance hT h1 ?_)
  cases b with
  | true => exact wpAny_pure h
  | false => exact wpAny_isInstance hT (h2 rfl) h
theorem upd_dict {nm : String} {od : Obj} {es : Array DictEntry} {ep : Nat} {Q : Unit → Shared → Prop} (R : TSet knd s.heap a S n) (hne : d ≠ a) (lo : (d == sysModules) = false) (hod : s.heap.get? d = some od) (hc : od.cls = .type "dict") (hdd : od.data = .dict es ep)
    (hk : ∀ e ∈ es.toList, ∃ k, knd.is k e.key = true ∧ e.hash = knd.hash k ∧ e.key.scannable = true) (hb : (n + es.size) * 2 < 2048)
    (k : ∀ h' n', Heap.SameBut a s.heap h' → n' ≤ n + es.size → TSet knd h' a (fun j => S j || es.toList.any fun e => knd.is j e.key) n' → Q () { s with heap := h' }) :
    wpAny (model prog w) A (Builtin.Frozenset.updateFrom nm a (.ref d)) Q E s := by
  have hT : s.TypeIs (.ref d) "dict" := ⟨od, hod, hc⟩
  unfold Builtin.Frozenset.updateFrom
  refine wpAny_bind (any_set hT F.sub_dict_set (fun _ => F.sub_dict_frozenset) ?_)
  simp only [Bool.false_eq_true, if_false]
  refine wpAny_bind (wpAny_typeOf hT ?_)
  rw [if_pos (by decide)]
  refine wpAny_bind (wpAny_rule ?_)
  unfold Builtin.Frozenset.addrOf
  refine wpAny_bind (wpAny_pure ?_)
  rw [if_neg (by rw [lo]; exact Bool.false_ne_true)]
  refine wpAny_bind (wpAny_dictEpoch hod hdd ?_)
  refine wpAny_bind (wpAny_dictEntries hod hdd ?_)
  refine wpAny_bind (tset_room R hb fun h1 sb1 R1 => ?_)
  have hod1 : h1.get? d = some od := (sb1.2 d hne).trans hod
  refine wpAny_bind (wpAny_dictEntries (s := { s with heap := h1 }) hod1 hdd ?_)
  refine wpAny_bind ?_
  refine upd_loop (s := { s with heap := h1 }) (nm := nm) R1 hne hod1 hdd hk (by show n + es.size + 1 < 4096; omega) fun h2 n' sb2 hn R2 => ?_
  exact wpAny_pure (k h2 n' (sb1.trans sb2) hn R2)
end

/-! ### a set walked unseen -/
section
variable {prog : Program} {w : World} {κ : Type} [DecidableEq κ] {knd : KeyKind prog w κ} {A : Around} {E : Value → Shared → Prop} {s : Shared} {a b : Addr} {S S' : κ → Bool} {n n' : Nat}
theorem set_walk {Q : Array (Int × Value) → Shared → Prop} {o : Obj} {es : Array (Int × Value)} {ep : Nat} {t : SetTable} (ho : s.heap.get? b = some o) (hd : o.data = .set es ep t) (g : GoodT knd S' n' es t)
    (hc : w.params.followText "set-order" = true ∨ t.plain = true ∨ es.size ≤ 1) (k : ∀ ys : Array (Int × Value), ys.toList.Perm es.toList → Q ys s) : wpAny (model prog w) A (setWalk b) Q E s := by
  obtain ⟨hel, hmem, hbd, hf, hn, hr, hl⟩ := id g
  unfold setWalk
  refine wpAny_bind (wpAny_setState_of ho hd hf ?_)
  dsimp only
  refine wpAny_bind (L2.wpAny_byText ?_)
  cases hbt : w.params.followText "set-order" with
  | true =>
    rw [if_pos rfl]
    refine wpAny_bind (wpAny_askSetting (wpAny_pure (k _ (L2.pick_perm _ _))))
  | false =>
    simp only [Bool.false_eq_true, if_false]
    have hled : t.led = true := hl.resolve_left (by rw [hbt]; exact Bool.false_ne_true)
    have hc' : t.plain = true ∨ es.size ≤ 1 := hc.resolve_left (by rw [hbt]; exact Bool.false_ne_true)
    have h1 : ¬ ((!t.plain && decide (es.size > 1)) = true) := fun z => by
      rw [Bool.and_eq_true] at z
      rcases hc' with h | h
      · rw [h] at z
        exact Bool.false_ne_true z.1
      · have := of_decide_eq_true z.2
        omega
    refine L2.wp_if_neg h1 (wpAny_bind ?_)
    have h2 : ¬ ((!t.led && decide (es.size > 1)) = true) := fun z => by
      rw [hled] at z
      exact Bool.false_ne_true (Bool.and_eq_true_iff.mp z).1
    exact L2.wp_if_neg h2 (wpAny_pure (wpAny_pure (k es (List.Perm.refl _))))
theorem quiet_of {es : Array (Int × Value)} (h : ElemsOf knd es.toList) : ∀ e ∈ es.toList, ∀ r, e.2 ≠ Value.ref r := fun e he r z => by
  have := (h e he).2
  rw [z] at this
  cases this
theorem forIn_still {α β : Type} : ∀ {l : List α} {f : α → β → Sem (ForInStep β)} {c : β}, (∀ x ∈ l, f x c = pure (.yield c)) → forIn l c f = pure c
  | [], _, _, _ => by rw [List.forIn_nil]
  | x :: l, f, c, h => by
    rw [List.forIn_cons, h x List.mem_cons_self, pure_bind]
    exact forIn_still fun y hy => h y (List.mem_cons_of_mem _ hy)
theorem sets_quiet {Q : Bool → Shared → Prop} {o o' : Obj} {es es' : Array (Int × Value)} {ep ep' : Nat} {t t' : SetTable} (ho : s.heap.get? b = some o) (hd : o.data = .set es ep t) (hf : t.fits es.size = true) (h1 : ∀ e ∈ es.toList, ∀ r, e.2 ≠ Value.ref r)
    (ho' : s.heap.get? a = some o') (hd' : o'.data = .set es' ep' t') (hf' : t'.fits es'.size = true) (h2 : ∀ e ∈ es'.toList, ∀ r, e.2 ≠ Value.ref r) (k : Q true s) : wpAny (model prog w) A (setsQuiet [b, a]) Q E s := by
  unfold setsQuiet setEntries
  simp only [bind_assoc, pure_bind]
  have inner : ∀ {es : Array (Int × Value)}, (∀ e ∈ es.toList, ∀ r, e.2 ≠ Value.ref r) → ∀ {f : Int × Value → Option Bool × Unit → Sem (ForInStep (Option Bool × Unit))}, (∀ e, (∀ r, e.2 ≠ Value.ref r) → f e (none, ()) = pure (.yield (none, ()))) → forIn es (none, ()) f = pure (none, ()) := fun {es} h {f} hf => by
    rw [← Array.forIn_toList]
    exact forIn_still fun e he => hf e (h e he)
  have hy : ∀ (e : Int × Value), (∀ r, e.2 ≠ Value.ref r) → (match e.2 with
      | Value.ref a => do
        let __do_lift ← specialOf e.2 (Str.ofString "__eq__")
        if (__do_lift != some (Value.builtin "object.__eq__")) = true then pure (ForInStep.done (some false, ()))
          else pure (ForInStep.yield (none, ()))
      | x => (pure (ForInStep.yield (none, ())) : Sem (ForInStep (Option Bool × Unit)))) = pure (ForInStep.yield (none, ())) := fun e he => by
    cases h : e.2 with
    | ref r => exact absurd h (he r)
    | _ => rfl
  refine wpAny_bind ?_
  rw [List.forIn_cons]
  refine wpAny_bind (wpAny_bind (wpAny_setState_of ho hd hf ?_))
  dsimp only
  rw [inner h1 fun e he => hy e he]
  refine wpAny_bind (wpAny_pure (wpAny_pure ?_))
  dsimp only
  rw [List.forIn_cons]
  refine wpAny_bind (wpAny_bind (wpAny_setState_of ho' hd' hf' ?_))
  dsimp only
  rw [inner h2 fun e he => hy e he]
  refine wpAny_bind (wpAny_pure (wpAny_pure ?_))
  dsimp only
  rw [List.forIn_nil]
  exact wpAny_pure (wpAny_pure k)
theorem walk_unseen {Q : Array (Int × Value) → Shared → Prop} {o : Obj} {es : Array (Int × Value)} {ep : Nat} {t : SetTable} (ho : s.heap.get? b = some o) (hd : o.data = .set es ep t) (g : GoodT knd S' n' es t) (R : TSet knd s.heap a S n) (hne : b ≠ a)
    (k : ∀ h' (ys : Array (Int × Value)), Heap.SameBut a s.heap h' → TSet knd h' a S n → ys.toList.Perm es.toList → Q ys { s with heap := h' }) : wpAny (model prog w) A (setWalkUnseen b [a] (some a)) Q E s := by
  obtain ⟨hel, hmem, hbd, hf, hn, hr, hl⟩ := id g
  unfold setWalkUnseen
  refine wpAny_bind (wpAny_setState_of ho hd hf ?_)
  dsimp only
  refine wpAny_bind (L2.wpAny_byText ?_)
  by_cases c : (w.params.followText "set-order" || (t.led && t.plain) || decide (es.size ≤ 1)) = true
  · rw [if_pos c]
    refine set_walk ho hd g ?_ fun ys hp => k s.heap ys (Heap.SameBut.refl _ _) R hp
    rw [Bool.or_eq_true, Bool.or_eq_true, Bool.and_eq_true] at c
    rcases c with (c | c) | c
    · exact .inl c
    · exact .inr (.inl c.2)
    · exact .inr (.inr (of_decide_eq_true c))
  · rw [if_neg c]
    have hbt : w.params.followText "set-order" = false := by
      cases z : w.params.followText "set-order" with
      | false => rfl
      | true => rw [z] at c; exact absurd rfl c
    have hled : t.led = true := hl.resolve_left (by rw [hbt]; exact Bool.false_ne_true)
    obtain ⟨o', es', ep', t', ho', hex', hd', g'⟩ := id R
    refine wpAny_bind (sets_quiet ho hd hf (quiet_of hel) ho' hd' g'.2.2.2.1 (quiet_of g'.1) ?_)
    rw [if_neg (by simp)]
    refine wpAny_bind (wpAny_rule (wpAny_bind (wpAny_setState_of ho' hd' g'.2.2.2.1 ?_)))
    dsimp only
    split
    · have g2 : GoodT knd S n es' { t' with led := t'.led && t.led, plain := t'.plain && t.plain } := g'.perm (List.Perm.refl _) g'.2.2.2.1 g'.2.2.2.2.2.1 fun z => by rw [z, hled]; rfl
      refine wpAny_bind (wpAny_storeSet_of ho' hd' ?_ (fits_of_scanBound g2.2.2.1))
      exact wpAny_pure (k _ es (Heap.SameBut.update s.heap a _) (tset_store ho' hex' hd' g2).2 (List.Perm.refl _))
    · exact wpAny_pure (k s.heap es (Heap.SameBut.refl _ _) R (List.Perm.refl _))
end

/-! ### a set takes another one's keys -/
section
variable {prog : Program} {w : World} {κ : Type} [DecidableEq κ] {knd : KeyKind prog w κ} {A : Around} {E : Value → Shared → Prop} {s : Shared} {a b : Addr} {S S' : κ → Bool} {n n' : Nat}
theorem any_is {es : List (Int × Value)} (hm : ∀ k, S' k = true ↔ ∃ e ∈ es, knd.is k e.2 = true) {ys : List (Int × Value)} (p : ys.Perm es) (j : κ) : (ys.any fun e => knd.is j e.2) = S' j := by
  rw [Bool.eq_iff_iff, List.any_eq_true, hm]
  exact ⟨fun ⟨e, h1, h2⟩ => ⟨e, p.mem_iff.mp h1, h2⟩, fun ⟨e, h1, h2⟩ => ⟨e, p.mem_iff.mpr h1, h2⟩⟩
theorem merge_more {each : Sem Unit} {Q : Unit → Shared → Prop} {o : Obj} {es : Array (Int × Value)} {ep : Nat} {t : SetTable} (ho : s.heap.get? b = some o) (hd : o.data = .set es ep t) (g : GoodT knd S' n' es t) (R : TSet knd s.heap a S n) (hne : b ≠ a) (h1 : 1 ≤ n) (hb : (n + n') * 2 < 2048)
    (he : ∀ (s1 : Shared) (Q1 : Unit → Shared → Prop), s1.heap.get? b = some o → Q1 () s1 → wpAny (model prog w) A each Q1 E s1)
    (k : ∀ h' m, Heap.SameBut a s.heap h' → m ≤ n + n' → TSet knd h' a (fun j => S j || S' j) m → Q () { s with heap := h' }) : wpAny (model prog w) A (setMerge a b each) Q E s := by
  obtain ⟨hel, hmem, hbd, hf, hn, hr, hl⟩ := id g
  unfold setMerge
  rw [if_neg (by simpa using fun z => hne z.symm)]
  refine wpAny_bind (wpAny_setState_of ho hd hf ?_)
  dsimp only
  split
  · rename_i c
    have h0 : es = #[] := Array.isEmpty_iff.mp c
    refine wpAny_pure (k s.heap n (Heap.SameBut.refl _ _) (by omega) (R.cast fun j => ?_))
    have : S' j = false := by
      cases z : S' j with
      | false => rfl
      | true =>
        obtain ⟨e, h, _⟩ := (hmem j).mp z
        rw [h0] at h
        simp at h
    rw [this, Bool.or_false]
  refine wpAny_bind (tset_room R (by rw [hn]; exact hb) fun hp1 sb1 R1 => ?_)
  have ho1 : hp1.get? b = some o := (sb1.2 b hne).trans ho
  obtain ⟨oa, ea, epa, ta, hoa, hexa, hda, ga⟩ := id R1
  refine wpAny_bind (wpAny_setState_of (s := { s with heap := hp1 }) hoa hda ga.2.2.2.1 ?_)
  dsimp only
  have hroad : ta.road t = .oneByOne := by
    unfold SetTable.road
    rw [if_pos]
    have hfa := ga.2.2.2.1
    unfold SetTable.fits at hfa
    rw [Bool.and_eq_true, beq_iff_eq] at hfa
    have h5 := ga.2.2.2.2.1
    show (ta.place.size + ta.dummies.size != 0) = true
    rw [bne_iff_ne]
    have h6 := hfa.1
    omega
  rw [hroad]
  dsimp only
  refine wpAny_bind (walk_unseen (s := { s with heap := hp1 }) ho1 hd g R1 hne fun hp2 ys sb2 R2 hp => ?_)
  have ho2 : hp2.get? b = some o := (sb2.2 b hne).trans ho1
  have sb02 := sb1.trans sb2
  refine wpAny_bind ?_
  rw [← Array.forIn_toList]
  have hlen : ys.toList.length = n' := by rw [hp.length_eq, Array.length_toList, hn]
  refine wpAny_forIn_list _
    (fun rest _ s' => ∃ h' m done, s' = { s with heap := h' } ∧ ys.toList = done ++ rest ∧ Heap.SameBut a s.heap h' ∧ m ≤ n + done.length ∧ TSet knd h' a (fun j => S j || done.any fun e => knd.is j e.2) m)
    _ ?_ ?_ _ _ ⟨hp2, n, [], rfl, rfl, sb02, Nat.le_refl _, R2.cast fun j => by simp⟩
  · rintro x rest u s' ⟨h', m, done, rfl, hys, sb, hm, R'⟩
    have hx : x ∈ es.toList := hp.mem_iff.mp (by rw [hys]; exact List.mem_append_right _ List.mem_cons_self)
    obtain ⟨⟨kk, k1, k2⟩, k3⟩ := hel x hx
    have hdl : done.length + (rest.length + 1) = n' := by
      rw [← hlen, hys, List.length_append, List.length_cons]
    have ho' : h'.get? b = some o := (sb.2 b hne).trans ho
    rw [k2]
    refine wpAny_bind (wpAny_holding (tset_add (s := { s with heap := h' }) k1 k3 R' (by show m + 1 < 4096; omega) fun bb h'' m' sb' hm' R'' => ?_))
    have ho'' : h''.get? b = some o := (sb'.2 b hne).trans ho'
    refine wpAny_bind (he _ _ ho'' ?_)
    refine wpAny_bind (wpAny_setState_of (s := { s with heap := h'' }) ho'' hd hf ?_)
    dsimp only
    rw [if_neg (by simp)]
    refine wpAny_pure ⟨h'', m', done ++ [x], rfl, by rw [hys, List.append_assoc]; rfl, sb.trans sb', by rw [List.length_append]; show m' ≤ n + (done.length + 1); omega, R''.cast fun j => ?_⟩
    have hj : knd.is j x.2 = decide (j = kk) := KeyKind.is_eq_decide k1 j
    rw [List.any_append, List.any_cons, List.any_nil, Bool.or_false, hj, Bool.or_assoc]
  · rintro u s' ⟨h', m, done, rfl, hys, sb, hm, R'⟩
    rw [List.append_nil] at hys
    subst hys
    exact wpAny_pure (k h' m sb (by omega) (R'.cast fun j => by rw [any_is hmem hp]))
/-- a new set -/
def FreshT (w : World) (h : Heap) (a : Addr) : Prop := ∃ o ep led, h.get? a = some o ∧ o.ExactSet ∧ o.data = .set #[] ep (.fresh 0 0 led) ∧ (w.params.followText "set-order" = true ∨ led = true)
theorem good_fresh {led : Bool} (h : w.params.followText "set-order" = true ∨ led = true) : GoodT knd (fun _ => false) 0 #[] (.fresh 0 0 led) :=
  ⟨(fun e he => by simp at he), (fun k => by simp), (by decide), (by rfl), rfl, List.Pairwise.nil, h⟩
theorem FreshT.tset {h : Heap} (f : FreshT w h a) : TSet knd h a (fun _ => false) 0 := let ⟨o, ep, led, h1, h2, h3, h4⟩ := f; ⟨o, #[], ep, _, h1, h2, h3, good_fresh h4⟩
theorem room_fresh {more : Nat} {Q : Unit → Shared → Prop} (F : FreshT w s.heap a) (hb : more * 2 < 2048)
    (k : ∀ h' ob ea eb tb, Heap.SameBut a s.heap h' → h'.get? a = some ob → ob.ExactSet → ob.data = .set ea eb tb → GoodT knd (fun _ => false) 0 ea tb → tb.dummies = #[] → goodN (tb.mask + 1) = true → more ≤ tb.mask → Q () { s with heap := h' }) : wpAny (model prog w) A (setRoomFor a more) Q E s := by
  obtain ⟨o, ep, led, ho, hex, hd, hl⟩ := F
  have g : GoodT knd (fun _ => false) 0 #[] (.fresh 0 0 led) := good_fresh hl
  unfold setRoomFor
  refine wpAny_bind (wpAny_setState_of ho hd g.2.2.2.1 ?_)
  dsimp only
  unfold SetTable.roomFor
  by_cases c : ((SetTable.fresh 0 0 led).fill + more) * 5 ≥ (SetTable.fresh 0 0 led).mask * 3
  · rw [if_pos c]
    have e : ((SetTable.fresh 0 0 led).place.size + more) * 2 = more * 2 := by show (0 + more) * 2 = _; omega
    rw [e]
    dsimp only
    obtain ⟨a1, a2, a3⟩ := above_good hb
    exact set_relay ho hex hd g (by omega) hb fun h' es' t' sb hg g' hm hdm => k h' _ es' (ep + 1) t' sb hg hex rfl g' hdm (by rw [hm]; exact a1) (by rw [hm]; omega)
  · rw [if_neg c]
    have c' : ¬ ((0 + 0 + more) * 5 ≥ 7 * 3) := c
    exact wpAny_pure (k s.heap o #[] ep _ (Heap.SameBut.refl _ _) ho hex hd g rfl (good_sizes 8 (by decide)) (by show more ≤ 7; omega))
theorem merge_fresh {each : Sem Unit} {Q : Unit → Shared → Prop} {o : Obj} {es : Array (Int × Value)} {ep : Nat} {t : SetTable} (ho : s.heap.get? b = some o) (hd : o.data = .set es ep t) (g : GoodT knd S' n' es t) (F : FreshT w s.heap a) (hne : b ≠ a) (hb : n' * 2 < 2048)
    (k : ∀ h', Heap.SameBut a s.heap h' → TSet knd h' a S' n' → (n' = 0 → FreshT w h' a) → Q () { s with heap := h' }) : wpAny (model prog w) A (setMerge a b each) Q E s := by
  obtain ⟨hel, hmem, hbd, hf, hn, hr, hl⟩ := id g
  unfold setMerge
  rw [if_neg (by simpa using fun z => hne z.symm)]
  refine wpAny_bind (wpAny_setState_of ho hd hf ?_)
  dsimp only
  split
  · rename_i c
    have h0 : es = #[] := Array.isEmpty_iff.mp c
    have hn0 : n' = 0 := by rw [← hn, h0]; rfl
    refine wpAny_pure (k s.heap (Heap.SameBut.refl _ _) ?_ fun _ => F)
    rw [hn0]
    refine (F.tset (knd := knd)).cast fun j => ?_
    cases z : S' j with
    | false => rfl
    | true =>
      obtain ⟨e, h, _⟩ := (hmem j).mp z
      rw [h0] at h
      simp at h
  rename_i c
  have hpos : 0 < es.size := Nat.pos_of_ne_zero fun z => c (by rw [Array.isEmpty_iff]; exact Array.eq_empty_of_size_eq_zero z)
  refine wpAny_bind (room_fresh (knd := knd) F (by rw [hn]; exact hb) fun hp ob ea eb tb sb1 h1 h2 h3 gd hdm hgood hle => ?_)
  refine wpAny_bind (wpAny_setState_of (s := { s with heap := hp }) h1 h3 gd.2.2.2.1 ?_)
  dsimp only
  have hfill : (tb.fill != 0) = false := by
    have hfa := gd.2.2.2.1
    unfold SetTable.fits at hfa
    rw [Bool.and_eq_true, beq_iff_eq] at hfa
    have h5 := gd.2.2.2.2.1
    show (tb.place.size + tb.dummies.size != 0) = false
    rw [hdm, hfa.1, h5]
    rfl
  have hled : w.params.followText "set-order" = true ∨ (tb.led && t.led) = true := by
    rcases hl with h | h
    · exact .inl h
    · rcases gd.2.2.2.2.2.2 with h' | h'
      · exact .inl h'
      · exact .inr (by rw [h, h']; rfl)
  have fin : ∀ (es2 : Array (Int × Value)) (t2 : SetTable), GoodT knd S' n' es2 t2 → wpAny (model prog w) A (storeSet a es2 t2) Q E { s with heap := hp } := fun es2 t2 g2 => by
    refine wpAny_storeSet_of (s := { s with heap := hp }) h1 h3 ?_ (fits_of_scanBound g2.2.2.1)
    refine k _ (sb1.trans (Heap.SameBut.update hp a _)) (tset_store h1 h2 h3 g2).2 fun z => ?_
    omega
  cases hroad : tb.road t with
  | oneByOne =>
    unfold SetTable.road at hroad
    rw [if_neg (by rw [hfill]; exact Bool.false_ne_true)] at hroad
    split at hroad <;> cases hroad
  | slotForSlot =>
    dsimp only
    exact fin es _ ⟨hel, hmem, hbd, hf, hn, hr, hled⟩
  | clean =>
    dsimp only
    obtain ⟨t', order, e1, e2, e3, e4, e5, e6, e7, e8, e9⟩ := laid_ok (mask := tb.mask) (finger := tb.finger) (moves := tb.moves) (led := tb.led && t.led) (plain := tb.plain && t.plain) (hs := es.map (·.1)) hgood (by rw [Array.size_map]; exact hle)
    rw [Array.size_map] at e2 e4
    have hp' := order_perm (es := es) e2
    have hz : (order.filterMap (es[·]?)).size = es.size := by rw [← Array.length_toList, hp'.length_eq, Array.length_toList]
    rw [e1]
    refine wpAny_bind ?_
    show wpAny _ _ (@ite (Sem (Array (Int × Value) × SetTable)) (((order.filterMap (es[·]?)).size != es.size) = true) _ _ _) _ _ _
    rw [if_neg (by rw [hz]; simp)]
    refine wpAny_pure (fin _ _ ⟨hel.perm hp', fun j => (hmem j).trans ⟨fun ⟨e, he, q⟩ => ⟨e, hp'.mem_iff.mpr he, q⟩, fun ⟨e, he, q⟩ => ⟨e, hp'.mem_iff.mp he, q⟩⟩, by rw [hz]; exact hbd, ?_, by rw [hz]; exact hn, e9, by rw [e7]; exact hled⟩)
    unfold SetTable.fits SetTable.fill
    rw [e4, hz, e5, e3, Bool.and_eq_true, beq_iff_eq, decide_eq_true_eq]
    exact ⟨rfl, by show es.size + 0 ≤ _; omega⟩
end

/-! ### the union of two sets -/
section
variable {prog : Program} {w : World} {κ : Type} [DecidableEq κ] {knd : KeyKind prog w κ} {A : Around} {E : Value → Shared → Prop} {s : Shared} {a b : Addr} {S S' : κ → Bool} {n n' : Nat}
theorem new_set {Q : Value → Shared → Prop} (k : FreshT w (s.heap.push { cls := .type "set", dict := none, data := .set #[] 0 (.fresh 0 0 (!w.params.followText "set-order")) }) s.heap.objs.size →
    Q (.ref s.heap.objs.size) { s with heap := s.heap.push { cls := .type "set", dict := none, data := .set #[] 0 (.fresh 0 0 (!w.params.followText "set-order")) } }) : wpAny (model prog w) A (newSet (.type "set")) Q E s := by
  unfold newSet
  refine wpAny_bind (L2.wpAny_byText ?_)
  dsimp only
  refine wpAny_newObj_type ?_
  refine k ⟨_, 0, _, Heap.get?_push_size _ rfl, ⟨rfl, rfl, rfl⟩, rfl, ?_⟩
  cases w.params.followText "set-order"
  · exact .inr rfl
  · exact .inl rfl
theorem copy_of {Q : Value → Shared → Prop} {o : Obj} {es : Array (Int × Value)} {ep : Nat} {t : SetTable} (ho : s.heap.get? b = some o) (hex : o.ExactSet) (hd : o.data = .set es ep t) (g : GoodT knd S' n' es t) (hb : n' * 2 < 2048)
    (k : ∀ h', (∀ c u, s.heap.get? c = some u → h'.get? c = some u) → TSet knd h' s.heap.objs.size S' n' → (n' = 0 → FreshT w h' s.heap.objs.size) → Q (.ref s.heap.objs.size) { s with heap := h' }) : wpAny (model prog w) A (Builtin.Frozenset.copyOf b) Q E s := by
  have hT : s.TypeIs (.ref b) "set" := ⟨o, ho, hex.1⟩
  have hlt : b < s.heap.objs.size := Heap.lt_size ho
  unfold Builtin.Frozenset.copyOf Builtin.Frozenset.baseOf
  refine wpAny_bind (wpAny_bind (wpAny_isInstance hT sub_set_self ?_))
  rw [if_pos rfl]
  refine wpAny_pure (wpAny_bind (new_set fun F => ?_))
  unfold Builtin.Frozenset.addrOf
  refine wpAny_bind (wpAny_pure ?_)
  have ho1 := Heap.get?_push_of_some { cls := .type "set", dict := none, data := .set #[] 0 (.fresh 0 0 (!w.params.followText "set-order")) } ho
  refine wpAny_bind (merge_fresh (s := { s with heap := s.heap.push { cls := .type "set", dict := none, data := .set #[] 0 (.fresh 0 0 (!w.params.followText "set-order")) } }) ho1 hd g F (Nat.ne_of_lt hlt) hb fun h' sb R f0 => ?_)
  exact wpAny_pure (k h' (fun c u e => (sb.2 c (Nat.ne_of_lt (Heap.lt_size e))).trans (Heap.get?_push_of_some _ e)) R f0)
theorem unchanged_at {nm : String} {o : Obj} {es : Array (Int × Value)} {ep : Nat} {t : SetTable} (hd : o.data = .set es ep t) (hf : t.fits es.size = true) (s1 : Shared) (Q1 : Unit → Shared → Prop) (ho : s1.heap.get? b = some o) (k : Q1 () s1) : wpAny (model prog w) A (Builtin.Frozenset.unchanged nm b ep) Q1 E s1 := by
  unfold Builtin.Frozenset.unchanged
  refine wpAny_bind (wpAny_setEpoch_of ho hd hf ?_)
  rw [if_neg (by simp)]
  exact wpAny_pure k
theorem upd_set {nm : String} {Q : Unit → Shared → Prop} {o : Obj} {es : Array (Int × Value)} {ep : Nat} {t : SetTable} (ho : s.heap.get? b = some o) (hex : o.ExactSet) (hd : o.data = .set es ep t) (g : GoodT knd S' n' es t) (R : TSet knd s.heap a S n) (f0 : n = 0 → FreshT w s.heap a) (hne : b ≠ a) (hb : (n + n') * 2 < 2048)
    (k : ∀ h' m, Heap.SameBut a s.heap h' → m ≤ n + n' → TSet knd h' a (fun j => S j || S' j) m → Q () { s with heap := h' }) : wpAny (model prog w) A (Builtin.Frozenset.updateFrom nm a (.ref b)) Q E s := by
  have hT : s.TypeIs (.ref b) "set" := ⟨o, ho, hex.1⟩
  have hf := g.2.2.2.1
  unfold Builtin.Frozenset.updateFrom
  refine wpAny_bind (any_set (b := true) hT sub_set_self (fun z => by cases z) ?_)
  rw [if_pos rfl]
  unfold Builtin.Frozenset.addrOf Builtin.Frozenset.merge
  refine wpAny_bind (wpAny_pure (wpAny_bind (wpAny_setEpoch_of ho hd hf ?_)))
  by_cases c : n = 0
  · refine merge_fresh (knd := knd) ho hd g (f0 c) hne (by omega) fun h' sb R' _ => k h' n' sb (by omega) (R'.cast fun j => ?_)
    obtain ⟨_, ea, _, _, _, _, _, ga⟩ := R
    have : S j = false := by
      cases z : S j with
      | false => rfl
      | true =>
        obtain ⟨e, h, _⟩ := (ga.2.1 j).mp z
        have h0 : ea = #[] := Array.eq_empty_of_size_eq_zero (by rw [ga.2.2.2.2.1, c])
        rw [h0] at h
        simp at h
    rw [this, Bool.false_or]
  · exact merge_more ho hd g R hne (by omega) hb (fun s1 Q1 h1 h2 => unchanged_at hd hf s1 Q1 h1 h2) k
end

/-! ### set(d), s | t, sorted(s) -/
theorem entry_or_s : entryFor table "set.__or__" = some Builtin.«frozenset.__or__» :=
  entryFor_alias (id' := "frozenset.__or__") (by kernel_rfl) rfl (by decide +kernel) (by kernel_rfl)
theorem tn_set : typeName (.type "set") = pure "set" := by
  unfold typeName
  rw [find?_eq_fast]
  kernel_rfl
section
variable {prog : Program} {w : World} {κ : Type} [DecidableEq κ] {knd : KeyKind prog w κ} {A : Around} {E : Value → Shared → Prop} {s : Shared} {l r d : Addr} {S S' : κ → Bool} {n n' : Nat}
theorem TSet.typeIs {S : κ → Bool} (R : TSet knd s.heap l S n) : s.TypeIs (.ref l) "set" := let ⟨o, _, _, _, h, x, _⟩ := R; ⟨o, h, x.1⟩
theorem TSet.at {h h' : Heap} {S : κ → Bool} (R : TSet knd h l S n) (k : ∀ o, h.get? l = some o → h'.get? l = some o) : TSet knd h' l S n := let ⟨o, es, ep, t, e, x⟩ := R; ⟨o, es, ep, t, k o e, x⟩
theorem or_sets {Q : Value → Shared → Prop} (L : TSet knd s.heap l S n) (R : TSet knd s.heap r S' n') (hne : r ≠ l) (hb : (n + n') * 2 < 2048)
    (k : ∀ h' m, (∀ c u, s.heap.get? c = some u → h'.get? c = some u) → m ≤ n + n' → TSet knd h' s.heap.objs.size (fun j => S j || S' j) m → Q (.ref s.heap.objs.size) { s with heap := h' }) :
    wpAny (model prog w) A (binaryOp .BitOr (.ref l) (.ref r)) Q E s := by
  obtain ⟨ol, el, epl, tl, hol, hexl, hdl, gl⟩ := id L
  obtain ⟨or, er, epr, tr, hor, hexr, hdr, gr⟩ := id R
  refine wpAny_binaryOp_same (op := .BitOr) L.typeIs R.typeIs F.fills_set_or F.slot_set_or (wpAny_call_entry F.slot_set_or L.typeIs entry_or_s ?_ (F.args_set_or_2 _ _))
  show wpAny _ _ ((Builtin.Frozenset.isAnySet (.ref l) <&&> Builtin.Frozenset.isAnySet (.ref r)) >>= _) _ _ s
  unfold andM
  refine wpAny_bind (wpAny_bind (any_set L.typeIs (b := true) sub_set_self (fun z => by cases z) (any_set R.typeIs (b := true) sub_set_self (fun z => by cases z) ?_)))
  refine L2.wp_if_neg (by simp) ?_
  refine wpAny_bind (m := Builtin.Frozenset.addrOf (.ref l)) (wpAny_pure ?_)
  refine wpAny_bind ?_
  show wpAny _ _ (Builtin.Frozenset.copyOf l >>= _) _ _ s
  refine wpAny_bind (copy_of hol hexl hdl gl (by omega) fun h' hk T f0 => ?_)
  refine L2.wp_if_pos (by simpa using hne) ?_
  refine wpAny_bind (m := Builtin.Frozenset.addrOf (.ref s.heap.objs.size)) (wpAny_pure (wpAny_bind (wpAny_holding ?_)))
  refine upd_set (s := { s with heap := h' }) (hk r or hor) hexr hdr gr T f0 (Nat.ne_of_lt (Heap.lt_size hor)) hb fun h2 m sb hm T2 => ?_
  refine wpAny_pure (wpAny_pure ⟨_, rfl, (fun z => by cases z), ?_⟩)
  exact k h2 m (fun c u e => (sb.2 c (Nat.ne_of_lt (Heap.lt_size e))).trans (hk c u e)) hm T2
/-- the set of a dict's keys -/
theorem init_dict {od : Obj} {es : Array DictEntry} {ep : Nat} {R : Fin → Shared → Prop} {E : Value → Shared → Prop} (T : TSet knd s.heap l (fun _ => false) 0) (f : FreshT w s.heap l) (hne : d ≠ l) (lo : (d == sysModules) = false) (hod : s.heap.get? d = some od) (hc : od.cls = .type "dict") (hdd : od.data = .dict es ep)
    (hk : ∀ e ∈ es.toList, ∃ k, knd.is k e.key = true ∧ e.hash = knd.hash k ∧ e.key.scannable = true) (hb : es.size * 2 < 2048)
    (k : ∀ h' m, Heap.SameBut l s.heap h' → m ≤ es.size → TSet knd h' l (fun j => es.toList.any fun e => knd.is j e.key) m → R (.done (.ret .none)) { s with heap := h' }) :
    wpAny (model prog w) A (Builtin.«set.__init__» ⟨[.ref l, .ref d], []⟩) R E s := by
  unfold Builtin.«set.__init__» noKeywords
  obtain ⟨o, ep0, led, ho, hex, hd, _⟩ := f
  have hf : (SetTable.fresh 0 0 led).fits (#[] : Array (Int × Value)).size = true := rfl
  have hT : s.TypeIs (.ref l) "set" := ⟨o, ho, hex.1⟩
  refine wpAny_bind (L2.wp_if_pos (by rfl) (wpAny_pure ?_))
  refine wpAny_bind (m := typeNameOfCut 200 (.ref l)) ?_
  have step : ∀ t : String, wpAny (model prog w) A (do
      checkCount t 0 1 1
      let a ← Builtin.Frozenset.addrOf (.ref l)
      if (← setUsed a) = true then Builtin.Frozenset.clearAll a
      Builtin.Frozenset.updateFrom "set.__init__" a (.ref d)
      ret .none) R E s := fun t => by
    refine wpAny_bind (m := checkCount t 0 1 1) (wpAny_pure (wpAny_bind (m := Builtin.Frozenset.addrOf (.ref l)) (wpAny_pure (wpAny_bind ?_))))
    unfold setUsed
    refine wpAny_bind (wpAny_setState_of ho hd hf (wpAny_pure ?_))
    refine L2.wp_if_neg (by show ¬ ((0 : Nat) != 0) = true; decide) ?_
    refine wpAny_bind (upd_dict T hne lo hod hc hdd hk (by omega) fun h' m sb hm T' => ?_)
    exact wpAny_pure (k h' m sb (by omega) (T'.cast fun j => by rw [Bool.false_or]))
  unfold typeNameOfCut shownTypeOf
  refine wpAny_bind (wpAny_bind (wpAny_typeOf hT ?_))
  refine L2.wp_if_neg (by decide) (wpAny_pure ?_)
  rw [show typeNameCut 200 (.type "set") = typeName (.type "set") from rfl, tn_set]
  exact wpAny_pure (step "set")
set_option maxHeartbeats 1600000 in
theorem call_set_dict {od : Obj} {es : Array DictEntry} {ep : Nat} {Q : Value → Shared → Prop} (lo : (d == sysModules) = false) (hod : s.heap.get? d = some od) (hc : od.cls = .type "dict") (hdd : od.data = .dict es ep)
    (hk : ∀ e ∈ es.toList, ∃ k, knd.is k e.key = true ∧ e.hash = knd.hash k ∧ e.key.scannable = true) (hb : es.size * 2 < 2048)
    (k : ∀ h' m, (∀ c u, s.heap.get? c = some u → h'.get? c = some u) → m ≤ es.size → TSet knd h' s.heap.objs.size (fun j => es.toList.any fun e => knd.is j e.key) m → Q (.ref s.heap.objs.size) { s with heap := h' }) :
    wpAny (model prog w) A (call (.type "set") [.ref d]) Q E s := by
  have ⟨c, tl, hmro⟩ := F.called_set.mro
  have gMade := F.called_set.made
  have gSub := F.called_set.sub
  refine wpAny_call (codeAny_of_tree (show wpAny _ _ (callAny (.type "set") _) _ _ _ from wpAny_pure ⟨Code.quiet_builtin _ (by decide +kernel), codeAny_builtin F.entry_type_call ?_⟩))
  rw [Around.under_plain (weight_type_call_type "set" [.ref d] []) rfl]
  have gNot := F.called_set.notType
  have gCan := F.called_set.canCreate
  have gChk := F.typeCall_set_1 (.ref d)
  repeat (any_goals (first | assumption | wp_step))
  let s0 : Shared := { s with heap := s.heap.push { cls := .type "set", dict := none, data := .set #[] 0 (.fresh 0 0 (!w.params.followText "set-order")) } }
  refine codeAny_mono (L2.code_set_led1 (.ref d) (E := E) (Q₁ := fun obj s₁ => obj = .ref s.heap.objs.size ∧ s₁ = s0) ⟨rfl, rfl⟩) fun rr s₁ hr => ?_
  cases rr with
  | error e => exact hr
  | ok fl =>
    cases fl with
    | ret obj =>
      obtain ⟨rfl, rfl⟩ := hr
      have fr : FreshT w s0.heap s.heap.objs.size := by
        refine ⟨_, 0, _, Heap.get?_push_size _ rfl, ⟨rfl, rfl, rfl⟩, rfl, ?_⟩
        cases w.params.followText "set-order"
        · exact .inr rfl
        · exact .inl rfl
      have tf : TSet knd s0.heap s.heap.objs.size (fun _ => false) 0 := fr.tset
      have hT : s0.TypeIs (.ref s.heap.objs.size) "set" := tf.typeIs
      have gLook := F.called_set.init.lookup
      have gBind := F.called_set.init.bind (.ref s.heap.objs.size)
      repeat (any_goals (first | assumption | wp_step))
      refine codeAny_mono (codeAny_call_builtin (R := wants (fun x s₂ => x = .none ∧ Q (.ref s.heap.objs.size) s₂) E) F.called_set.init.plain F.entry_set_init (check_set_init_1 hT ?_)) fun r2 s2 hr2 => ?_
      · have hod' : s0.heap.get? d = some od := Heap.get?_push_of_some _ hod
        refine init_dict (s := s0) tf fr (Nat.ne_of_lt (Heap.lt_size hod)) lo hod' hc hdd hk hb fun h' m sb hm T => ⟨rfl, k h' m (fun b u e => ?_) hm T⟩
        exact (sb.2 b (Nat.ne_of_lt (Heap.lt_size e))).trans (Heap.get?_push_of_some _ e)
      · cases r2 with
        | error e => exact hr2
        | ok f2 =>
          cases f2 with
          | ret x =>
            obtain ⟨rfl, q⟩ := hr2
            repeat (any_goals (first | assumption | wp_step))
          | _ => exact hr2.elim
    | _ => exact hr.elim
end

end GC

--CUT inf
set_option Elab.async false
set_option linter.all false
set_option maxRecDepth 100000
set_option maxHeartbeats 4000000
namespace GC
open PySem L2 Evl
/-! ### values told by a predicate, over heaps that only grow -/
abbrev VP := V → Hp → Prop
class Mono (P : VP) : Prop where
  mono : ∀ {v : V} {H H' : Hp}, Ex H H' → P v H → P v H'
def Is (v0 : V) : VP := fun v _ => v = v0
instance {v0 : V} : Mono (Is v0) := ⟨fun _ h => h⟩
/-- a tuple of these values, a list of these values, wherever it stands -/
def Tp (K : PySem.W.Frag) (xs : List V) : VP := fun v H => ∃ p, v = .ref p ∧ SqT K H p xs
def Ls (K : PySem.W.Frag) (xs : List V) : VP := fun v H => ∃ p, v = .ref p ∧ SqL K H p xs
instance {K : PySem.W.Frag} {xs : List V} : Mono (Tp K xs) := ⟨fun e ⟨p, a, b⟩ => ⟨p, a, ex_t e b⟩⟩
instance {K : PySem.W.Frag} {xs : List V} : Mono (Ls K xs) := ⟨fun e ⟨p, a, b⟩ => ⟨p, a, ex_l e b⟩⟩
/-- a new object -/
def Nw (H : Hp) (o : HO) : VP := fun v H2 => ∃ p, v = .ref p ∧ H p = none ∧ H2 p = some o
instance {H : Hp} {o : HO} : Mono (Nw H o) := ⟨fun e ⟨p, a, b, c⟩ => ⟨p, a, b, e p _ c⟩⟩
def EvX (te : TE) (σ : L2.St) (H : Hp) (P : VP) : Prop := ∀ H1, Ex H H1 → ∀ Q : VK, (∀ v H2, Ex H1 H2 → P v H2 → Q v H2) → te σ H1 Q
def EvXA (ta : TA) (σ : L2.St) (H : Hp) (P : List V → Hp → Prop) : Prop := ∀ H1, Ex H H1 → ∀ Q : List V → Hp → Prop, (∀ vs H2, Ex H1 H2 → P vs H2 → Q vs H2) → ta σ H1 Q
def SpX (sp : Sp) (vs : List V) (H : Hp) (P : VP) : Prop := ∀ H1, Ex H H1 → ∀ (Q : VK) (E : XK), (∀ v H2, Ex H1 H2 → P v H2 → Q v H2) → sp vs H1 Q E
def Ret (P : VP) (H : Hp) (Q : VK) : Prop := ∀ v H2, Ex H H2 → P v H2 → Q v H2
/-- a def that changes nothing that stood: its arguments by x, what must hold of them, what is told -/
def SpF {α : Type} (args : α → List V) (Pre : α → Hp → Prop) (Post : α → Hp → VP) : Sp := fun vs H Q _ => ∃ x : α, vs = args x ∧ Pre x H ∧ Ret (Post x H) H Q
section
variable {K : PySem.W.Frag} {σ : L2.St} {H H' : Hp} {ta tb te tx : TE} {t u : TT} {x y z v : V} {P P' R : VP}
theorem sx_of {α : Type} {args : α → List V} {Pre : α → Hp → Prop} {Post : α → Hp → VP} (x : α) (hm : ∀ H1, Ex H H1 → Pre x H1) (hp : ∀ H1 v H2, Ex H H1 → Ex H1 H2 → Post x H1 v H2 → P v H2) : SpX (SpF args Pre Post) (args x) H P :=
  fun H1 e Q _ q => ⟨x, rfl, hm H1 e, fun v H2 e2 h => q v H2 e2 (hp H1 v H2 e e2 h)⟩
theorem sv_of {sp : Sp} {vs : List V} (h : SpX sp vs H (Is v)) : SpV sp vs H v := fun H1 e Q q E => h H1 e Q E fun w H2 e2 hw => by
  cases (show w = v from hw)
  exact q H2 e2
theorem x_ev (h : Ev te σ H v) : EvX te σ H (Is v) := fun H1 e Q q => h H1 e Q fun H2 e2 => q v H2 e2 rfl
theorem ev_x (h : EvX te σ H (Is v)) : Ev te σ H v := fun H1 e Q q => h H1 e Q fun w H2 e2 hw => by
  cases (show w = v from hw)
  exact q H2 e2
theorem x_is (h : Ev te σ H v) (hp : ∀ H1, Ex H H1 → P v H1) : EvX te σ H P := fun H1 e Q q => h H1 e Q fun H2 e2 => q v H2 e2 (hp H2 (e.trans e2))
theorem EvX.mono (e : Ex H H') (h : EvX te σ H P) : EvX te σ H' P := fun H1 a Q q => h H1 (e.trans a) Q q
theorem EvX.imp (h : EvX te σ H P) (hp : ∀ v H1, Ex H H1 → P v H1 → R v H1) : EvX te σ H R := fun H1 e Q q => h H1 e Q fun w H2 e2 hw => q w H2 e2 (hp w H2 (e.trans e2) hw)
theorem x_tup {ta : TA} {vs : List V} (h : EvA ta σ H vs) (hl : vs.length ≤ 100000 := by exact Nat.le_of_ble_eq_true rfl) : EvX (tTup ta) σ H (Nw H (.tup vs)) := fun H1 e Q q =>
  eu_tup h hl H1 e Q fun p H2 hp e2 h2 => q _ H2 e2 ⟨p, rfl, fresh_back e hp, h2⟩
theorem x_lst {ta : TA} {vs : List V} (h : EvA ta σ H vs) (hl : vs.length ≤ 100000 := by exact Nat.le_of_ble_eq_true rfl) : EvX (tLst ta) σ H (Nw H (.lst vs)) := fun H1 e Q q =>
  el_lst h hl H1 e Q fun p H2 hp e2 h2 => q _ H2 e2 ⟨p, rfl, fresh_back e hp, h2⟩
theorem x_dnew : EvX tDNewK σ H (Nw H (.dK [])) := fun H1 e Q q => fun p hp => q _ _ (Ex.new hp) ⟨p, rfl, fresh_back e hp, upd_same⟩
theorem nw_tp {xs : List V} : ∀ v H1, Ex H H1 → Nw H (.tup xs) v H1 → Tp K xs v H1 := fun _ _ _ ⟨p, a, _, c⟩ => ⟨p, a, st_of c⟩
theorem nw_ls {xs : List V} : ∀ v H1, Ex H H1 → Nw H (.lst xs) v H1 → Ls K xs v H1 := fun _ _ _ ⟨p, a, _, c⟩ => ⟨p, a, sq_of c⟩
theorem nw_t {H0 H1 : Hp} {xs : List V} {v : V} : Nw H0 (.tup xs) v H1 → Tp K xs v H1 := fun ⟨p, a, _, c⟩ => ⟨p, a, st_of c⟩
theorem nw_l {H0 H1 : Hp} {xs : List V} {v : V} : Nw H0 (.lst xs) v H1 → Ls K xs v H1 := fun ⟨p, a, _, c⟩ => ⟨p, a, sq_of c⟩
theorem x_tupT {ta : TA} {vs : List V} (h : EvA ta σ H vs) (hl : vs.length ≤ 100000 := by exact Nat.le_of_ble_eq_true rfl) : EvX (tTup ta) σ H (Tp K vs) := (x_tup h hl).imp nw_tp
theorem x_tupM {ta : TA} {vs : List V} (h : EvA ta σ H vs) (hl : vs.length ≤ 100000) : EvX (tTup ta) σ H (Tp K vs) := (x_tup h hl).imp nw_tp
theorem ax_nil : EvXA tNil σ H (fun vs _ => vs = []) := fun H1 _ Q q => q [] H1 (Ex.refl H1) rfl
theorem ax_cons {tr : TA} {PA : List V → Hp → Prop} [Mono P] (h : EvX te σ H P) (hr : EvXA tr σ H PA) : EvXA (tCons te tr) σ H (fun vs H2 => ∃ v r, vs = v :: r ∧ P v H2 ∧ PA r H2) := fun H1 e Q q =>
  h H1 e _ fun v H2 e2 hv => hr H2 (e.trans e2) _ fun r H3 e3 hr' => q _ H3 (e2.trans e3) ⟨v, r, rfl, Mono.mono e3 hv, hr'⟩
theorem x_call {sp : Sp} {dvs : List V} {E : XK} {ta : TA} {PA : List V → Hp → Prop} (h : EvXA ta σ H PA) (hs : ∀ vs H1, Ex H H1 → PA vs H1 → SpX sp (vs ++ dvs) H1 P) : EvX (tCall sp dvs E ta) σ H P := fun H1 e Q q =>
  h H1 e _ fun vs H2 e2 hv => hs vs H2 (e.trans e2) hv H2 (Ex.refl H2) Q E fun v H3 e3 hp => q v H3 (e2.trans e3) hp
theorem x_if {b : Bool} (h : EvT t σ H b) (h1 : b = true → EvX ta σ H P) (h2 : b = false → EvX tb σ H P) : EvX (tIf t ta tb) σ H P := fun H1 e Q q => h H1 e _ fun H2 e2 => by
  cases b with
  | true => exact h1 rfl H2 (e.trans e2) Q fun v H3 e3 hv => q v H3 (e2.trans e3) hv
  | false => exact h2 rfl H2 (e.trans e2) Q fun v H3 e3 hv => q v H3 (e2.trans e3) hv
theorem ev_ifI {b : Bool} {i j : Int} (h : EvT t σ H b) (h1 : Ev ta σ H (.int i)) (h2 : Ev tb σ H (.int j)) : Ev (tIf t ta tb) σ H (.int (if b = true then i else j)) :=
  ev_if h (fun e => by rw [if_pos e]; exact h1) (fun e => by rw [if_neg (by rw [e]; exact Bool.false_ne_true)]; exact h2)
variable {D : Ends} {tu tw tz : TS}
theorem qx_asg {i : Nat} (h : EvX te σ H P) (k : ∀ v H1, Ex H H1 → P v H1 → tz D (σ.set i (some v)) H1) : tSeq (tAsg te (gName i)) tz D σ H := h H (Ex.refl H) _ fun v H1 e hp => k v H1 e hp
theorem sx_asg {i : Nat} (h : EvX te σ H P) (k : ∀ v H1, Ex H H1 → P v H1 → D.nx (σ.set i (some v)) H1) : tAsg te (gName i) D σ H := h H (Ex.refl H) _ fun v H1 e hp => k v H1 e hp
theorem sx_ret (h : EvX te σ H P) (k : ∀ v H1, Ex H H1 → P v H1 → D.rt v H1) : tRet te D σ H := h H (Ex.refl H) _ fun v H1 e hp => k v H1 e hp
end
section
variable {K : PySem.W.Frag} {σ : L2.St} {H H' : Hp} {ta tb te tx : TE} {t u : TT} {x y z v : V} {P P' R : VP}
theorem x_call1 {sp : Sp} {E : XK} {P1 : VP} (h1 : EvX ta σ H P1) (hs : ∀ v1 H1, Ex H H1 → P1 v1 H1 → SpX sp [v1] H1 P) : EvX (tCall sp [] E (tCons ta tNil)) σ H P := fun H1 e Q q =>
  h1 H1 e _ fun v1 H2 e2 p1 => hs v1 H2 (e.trans e2) p1 H2 (Ex.refl H2) Q E fun v H3 e3 hp => q v H3 (e2.trans e3) hp
theorem x_call2 {sp : Sp} {E : XK} {P1 P2 : VP} [Mono P1] (h1 : EvX ta σ H P1) (h2 : EvX tb σ H P2) (hs : ∀ v1 v2 H1, Ex H H1 → P1 v1 H1 → P2 v2 H1 → SpX sp [v1, v2] H1 P) : EvX (tCall sp [] E (tCons ta (tCons tb tNil))) σ H P := fun H1 e Q q =>
  h1 H1 e _ fun v1 H2 e2 p1 => h2 H2 (e.trans e2) _ fun v2 H3 e3 p2 => hs v1 v2 H3 ((e.trans e2).trans e3) (Mono.mono e3 p1) p2 H3 (Ex.refl H3) Q E fun v H4 e4 hp => q v H4 ((e2.trans e3).trans e4) hp
theorem x_varT {i : Nat} {p : Addr} {xs : List V} (h : σ[i]? = some (some (.ref p))) (hq : SqT K H p xs) : EvX (tVar i) σ H (Tp K xs) := x_is (ev_var h) fun _ e => ⟨p, rfl, ex_t e hq⟩
theorem x_varL {i : Nat} {p : Addr} {xs : List V} (h : σ[i]? = some (some (.ref p))) (hq : SqL K H p xs) : EvX (tVar i) σ H (Ls K xs) := x_is (ev_var h) fun _ e => ⟨p, rfl, ex_l e hq⟩
theorem ev_lenT {p : Addr} {xs : List V} (ha : Ev ta σ H (.ref p)) (h : SqT K H p xs) : Ev (tCB (rLenS K) (tCons ta tNil)) σ H (.int (xs.length : Int)) := fun H1 e Q q =>
  ha H1 e _ fun H2 e2 => ⟨p, xs, rfl, Or.inr (ex_t (e.trans e2) h), q H2 e2⟩
def rMin2 : List V → Hp → VK → Prop := fun xs H Q => ∃ i j, xs = [.int i, .int j] ∧ Q (.int (if j < i then j else i)) H
theorem ev_min2 {i j : Int} (ha : Ev ta σ H (.int i)) (hb : Ev tb σ H (.int j)) : Ev (tCB rMin2 (tCons ta (tCons tb tNil))) σ H (.int (if j < i then j else i)) := fun H1 e Q q =>
  ha H1 e _ fun H2 e2 => hb H2 (e.trans e2) _ fun H3 e3 => ⟨i, j, rfl, q H3 (e2.trans e3)⟩
/-- isinstance(x, T) -/
theorem ev_isi {a T : String} {b : Bool} (h : Ev tx σ H x) (hty : ∀ H1, Ex H H1 → TyX K H1 x (.type a)) (hb : kitB a T = some b) : Ev (tCB (rIsi K) (tCons tx (tCons (tC (.ty T)) tNil))) σ H (.bl b) := fun H1 e Q q =>
  h H1 e _ fun H2 e2 => ⟨x, .ty T, .type a, .type T, b, rfl, .ty T, hty H2 (e.trans e2), kit_ty hb, q H2 e2⟩
theorem tyx_tup {H : Hp} {p : Addr} {xs : List V} (h : SqT K H p xs) : TyX K H (.ref p) (.type "tuple") := by
  rcases h with (h | ⟨o, h⟩) | ⟨o, its, n, h1, h2, _⟩
  · exact .base (.tup h)
  · exact .fTuple h
  · exact .kTuple h1 h2
theorem tyx_lst {H : Hp} {p : Addr} {xs : List V} (h : SqL K H p xs) : TyX K H (.ref p) (.type "list") := by
  rcases h with (h | ⟨o, h⟩) | ⟨o, its, n, h1, h2, _⟩
  · exact .base (.lst h)
  · exact .base (.frz h)
  · exact .kList h1 h2
end
section
variable {K : PySem.W.Frag} {H : Hp} {x : V}
theorem rc_lenT {p : Addr} {xs : List V} (h : SqT K H p xs) : RC (rLenS K) [.ref p] H (.int (xs.length : Int)) := fun H1 e _ q => ⟨p, xs, rfl, Or.inr (ex_t e h), q H1 (Ex.refl H1)⟩
theorem rc_lenL {p : Addr} {xs : List V} (h : SqL K H p xs) : RC (rLenS K) [.ref p] H (.int (xs.length : Int)) := fun H1 e _ q => ⟨p, xs, rfl, Or.inl (ex_l e h), q H1 (Ex.refl H1)⟩
def rLenStr : List V → Hp → VK → Prop := fun xs H Q => ∃ z : Str, xs = [.str z] ∧ z.length ≤ sizeLine ∧ Q (.int z.length) H
theorem rc_lenStr {z : Str} (h : z.length ≤ 100000) : RC rLenStr [.str z] H (.int (z.length : Int)) := fun H1 _ _ q => ⟨z, rfl, sz_of h, q H1 (Ex.refl H1)⟩
theorem rc_max2 {i j : Int} : RC rMax2 [.int i, .int j] H (.int (if j > i then j else i)) := fun H1 _ _ q => ⟨i, j, rfl, q H1 (Ex.refl H1)⟩
theorem rc_min2 {i j : Int} : RC rMin2 [.int i, .int j] H (.int (if j < i then j else i)) := fun H1 _ _ q => ⟨i, j, rfl, q H1 (Ex.refl H1)⟩
theorem rc_isi {a T : String} {b : Bool} (hty : ∀ H1, Ex H H1 → TyX K H1 x (.type a)) (hb : kitB a T = some b) : RC (rIsi K) [x, .ty T] H (.bl b) := fun H1 e _ q =>
  ⟨x, .ty T, .type a, .type T, b, rfl, .ty T, hty H1 e, kit_ty hb, q H1 (Ex.refl H1)⟩
end
/-- what stands where a def's name points -/
structure Has (K : PySem.W.Frag) (mg : Str → Option Value) (x : Str) (st : Stmt) (ps : List Str) (f : Addr) (fd : FuncData) : Prop where
  m : mg x = some (.ref f)
  F : Fun K x x st f fd
  b : Binds K fd ps []
def tupInts (o : Obj) (ns : List Int) : Bool := match o.cls, o.data with
  | .type "tuple", .seq its _ => decide (its.size ≤ 1000) && decide (its.toList.map absV = ns.map fun i => some (V.int i))
  | _, _ => false
theorem absV_inv {v : V} {u : Value} (h : absV u = some v) : RelV v u := by
  cases u <;> simp only [absV] at h <;> first | (cases h; done) | (injection h with h; subst h; first | exact rfl | exact ⟨_, rfl⟩)
theorem vals_abs : ∀ {us : List Value} {xs : List V}, us.map absV = xs.map some → Vals xs us
  | [], [], _ => .nil
  | [], _ :: _, h => by cases h
  | _ :: _, [], h => by cases h
  | u :: us, x :: xs, h => by
    rw [List.map_cons, List.map_cons, List.cons.injEq] at h
    exact .cons (absV_inv h.1) (vals_abs h.2)
theorem sqT_written {K : PySem.W.Frag} {H : Hp} {a : Addr} {o : Obj} {ns : List Int} (h : K.lookup a = some o) (t : tupInts o ns = true) : SqT K H a (ns.map V.int) := by
  obtain ⟨cl, dd, dt, sl⟩ := o
  unfold tupInts at t
  split at t
  · rename_i its n e1 e2
    rw [Bool.and_eq_true] at t
    have h1 := of_decide_eq_true t.1
    have h2 := of_decide_eq_true t.2
    refine .inr ⟨_, its, n, h, e1, e2, Nat.le_trans h1 (by decide), vals_abs ?_⟩
    rw [h2, List.map_map]
    rfl
  · cases t
/-! ### steps of my own -/
local macro_rules | `(tactic| walk_at "ex") => `(tactic| first | assumption | exact Ex.refl _ | (apply Ex.trans; rotate_left; assumption; walk_at "ex"))
local macro_rules | `(tactic| walk_at "sv") => `(tactic| assumption)
local macro_rules | `(tactic| walk_at "sq") => `(tactic| first | assumption | (apply ex_t; rotate_left; assumption; walk_at "ex") | (apply ex_l; rotate_left; assumption; walk_at "ex") | (refine st_of ?_; assumption) | (refine sq_of ?_; assumption))
local macro_rules | `(tactic| walk_at "ty") => `(tactic| first | exact fun _ _ => .base (.int _) | exact fun _ _ => .base (.bl _) | exact fun _ _ => .base (.str _) | exact fun _ _ => .base .non | exact fun _ ez => tyx_tup (ex_t ez (by walk_at "sq")) | exact fun _ ez => tyx_lst (ex_l ez (by walk_at "sq")))
local macro_rules | `(tactic| walk_at "pos") => `(tactic| first | (show (0 : Int) < _; decide) | exact ⟨by decide, by decide⟩ | exact ⟨by decide, by decide, by decide⟩ | (show (0 : Int) < _; omega) | (refine ⟨?_, ?_⟩ <;> omega) | (refine Or.inl ⟨?_, ?_⟩ <;> omega) | (refine Or.inr ⟨?_, ?_⟩ <;> omega) | (show (0 : Int) < _; decide +kernel))
local macro_rules | `(tactic| walk_at "rv") => `(tactic| first
  | with_reducible exact rv_I0
  | ((with_reducible apply rv_I); walk_at "pos")
  | ((with_reducible apply rv_eq); exact rfl)
  | ((with_reducible apply rv_ne); exact rfl)
  | ((with_reducible apply rv_ixT); (focus (walk_at "sq")); exact rfl)
  | ((with_reducible apply rv_ixL); (focus (walk_at "sq")); exact rfl))
local macro_rules | `(tactic| walk_at "rc") => `(tactic| first
  | ((with_reducible apply rc_isi (b := true)); (focus (walk_at "ty")); decide +kernel)
  | ((with_reducible apply rc_isi (b := false)); (focus (walk_at "ty")); decide +kernel)
  | (apply rc_lenT; walk_at "sq")
  | (apply rc_lenL; walk_at "sq")
  | exact rc_max2
  | exact rc_min2)
local macro_rules | `(tactic| walk_at "ev") => `(tactic| first
  | ((with_reducible apply ev_var); exact rfl)
  | with_reducible exact ev_c
  | with_reducible exact ea_nil
  | ((with_reducible apply ea_cons) <;> walk_at "ev")
  | ((with_reducible apply ev_op); (focus (walk_at "ev")); (focus (walk_at "ev")); walk_at "rv")
  | ((with_reducible apply ev_cb); (focus (walk_at "ev")); walk_at "rc")
  | ((with_reducible apply et_test); walk_at "ev")
  | ((with_reducible apply et_B); walk_at "ev")
  | ((with_reducible apply et_not); walk_at "ev")
  | ((with_reducible apply ev_notV); walk_at "ev")
  | ((with_reducible apply ev_ifI) <;> walk_at "ev")
  | ((with_reducible apply et_or); (focus (walk_at "ev")); (intro _; walk_at "ev"))
  | ((with_reducible apply et_and); (focus (walk_at "ev")); (intro _; walk_at "ev"))
  | ((with_reducible apply ev_orV); (focus (walk_at "ev")); (intro _; walk_at "ev"))
  | ((with_reducible apply ev_andV); (focus (walk_at "ev")); (intro _; walk_at "ev"))
  | walk_at "xc")
local macro_rules | `(tactic| walk_at "xc") => `(tactic| ((with_reducible apply ev_call); (focus (walk_at "ev")); (focus (walk_at "sv"))))
local macro_rules | `(tactic| walk_at "xv") => `(tactic| first
  | assumption
  | ((with_reducible apply x_tupM); (focus (walk_at "ev")); exact Nat.le_of_ble_eq_true rfl)
  | ((with_reducible apply x_varT); (focus (exact rfl)); walk_at "sq")
  | ((with_reducible apply x_varL); (focus (exact rfl)); walk_at "sq")
  | ((with_reducible apply x_ev); walk_at "ev"))

/-! ### texts by their signs -/
def sg (c : Nat) : Str := ⟨#[c]⟩
def ofL (cs : List Nat) : Str := ⟨cs.toArray⟩
theorem str_ext {a b : Str} (h : a.cps.toList = b.cps.toList) : a = b := by
  cases a; cases b
  congr 1
  exact Array.toList_inj.mp h
theorem ofL_len (cs : List Nat) : (ofL cs).length = cs.length := by show cs.toArray.size = _; simp
theorem ofL_tl (cs : List Nat) : (ofL cs).cps.toList = cs := rfl
theorem ofL_app (a b : List Nat) : ofL a ++ ofL b = ofL (a ++ b) := str_ext (by
  show (a.toArray ++ b.toArray).toList = (a ++ b)
  simp)
theorem ofL_eta (z : Str) : ofL z.cps.toList = z := str_ext rfl
theorem joinL_nil : ∀ ps : List (List Nat), TL.joinL [] ps = ps.flatten
  | [] => rfl
  | [p] => by simp [TL.joinL]
  | p :: q :: r => by
    show p ++ ([] ++ TL.joinL [] (q :: r)) = _
    rw [joinL_nil (q :: r)]
    simp
theorem join_sg (cs : List Nat) : Txt.join (Str.ofString "") (cs.map sg) = ofL cs := by
  rw [TL.join_eq]
  refine str_ext ?_
  show TL.tl (Str.join _ _) = cs
  rw [TL.tl_join]
  have e : TL.tl (Str.ofString "") = [] := by rw [TL.tl_ofString]; rfl
  rw [e, joinL_nil, List.map_map]
  have e2 : (TL.tl ∘ sg) = fun c => [c] := rfl
  rw [e2]
  induction cs with
  | nil => rfl
  | cons c r ih => simp [ih]
theorem sg_len (cs : List Nat) : ((cs.map sg).map (·.length)).sum = cs.length := by
  induction cs with
  | nil => rfl
  | cons c r ih =>
    rw [List.map_cons, List.map_cons, List.sum_cons, ih]
    show 1 + r.length = r.length + 1
    omega
theorem atI_of {α : Type} {xs : List α} {i : Int} {v : α} (h0 : 0 ≤ i) (h : xs[i.toNat]? = some v) : atI xs i = some v := by
  have e0 : ((i.toNat : Nat) : Int) = i := by omega
  rw [← e0]
  exact atI_nat h
theorem atI_in {xs : List Nat} {i : Int} (h0 : 0 ≤ i) (h1 : i < (xs.length : Int)) : atI xs i = some (xs[i.toNat]?.getD 0) := by
  have e0 : ((i.toNat : Nat) : Int) = i := by omega
  have hlt : i.toNat < xs.length := by omega
  rw [← e0]
  refine atI_nat ?_
  rw [e0, List.getElem?_eq_getElem hlt]
  rfl
section
variable {K : PySem.W.Frag} {σ : L2.St} {H H' : Hp} {ta tb tc te tl' to : TE} {x y z w : V} {r r' : R2}
theorem ev_chain {b1 b2 : Bool} (ha : Ev ta σ H x) (hb : Ev tb σ H y) (h1 : RV r x y H (.bl b1)) (hc : b1 = true → Ev tc σ H w) (h2 : b1 = true → RV r' y w H (.bl b2)) : Ev (tChain r r' ta tb tc) σ H (.bl (b1 && b2)) := fun H1 e Q q =>
  ha H1 e _ fun H2 e2 => hb H2 (e.trans e2) _ fun H3 e3 => h1 H3 ((e.trans e2).trans e3) _ fun H4 e4 => ⟨b1, rfl, by
    cases b1 with
    | true =>
      show tc σ H4 _
      exact hc rfl H4 (((e.trans e2).trans e3).trans e4) _ fun H5 e5 => h2 rfl H5 ((((e.trans e2).trans e3).trans e4).trans e5) Q fun H6 e6 => q H6 ((((e2.trans e3).trans e4).trans e5).trans e6)
    | false =>
      show Q (.bl false) H4
      exact q H4 ((e2.trans e3).trans e4)⟩
def rLeStr : R2 := fun x y H Q => ∃ i j, x = .str i ∧ y = .str j ∧ Q (.bl (!decide (j.cps.toList < i.cps.toList))) H
def rNotInS' : R2 := fun x y H Q => ∃ (c : Nat) (z : Str), x = .str ⟨#[c]⟩ ∧ y = .str z ∧ Q (.bl (!decide (c ∈ z.cps.toList))) H
def rAddStr : R2 := fun x y H Q => ∃ i j, x = .str i ∧ y = .str j ∧ i.length + j.length ≤ sizeLine ∧ Q (.str (i ++ j)) H
theorem rv_leStr {i j : Str} : RV rLeStr (.str i) (.str j) H (.bl (!decide (j.cps.toList < i.cps.toList))) := fun H1 _ _ q => ⟨i, j, rfl, rfl, q H1 (Ex.refl H1)⟩
theorem rv_notInS {c : Nat} {z : Str} : RV rNotInS' (.str ⟨#[c]⟩) (.str z) H (.bl (!decide (c ∈ z.cps.toList))) := fun H1 _ _ q => ⟨c, z, rfl, rfl, q H1 (Ex.refl H1)⟩
theorem rv_addStr {i j : Str} (h : i.length + j.length ≤ 100000) : RV rAddStr (.str i) (.str j) H (.str (i ++ j)) := fun H1 _ _ q => ⟨i, j, rfl, rfl, sz_of h, q H1 (Ex.refl H1)⟩
theorem rv_isB {a b : Bool} : RV rIsB (.bl a) (.bl b) H (.bl (decide (a = b))) := fun H1 _ _ q => ⟨a, b, rfl, rfl, q H1 (Ex.refl H1)⟩
theorem rv_notB {a b : Bool} : RV rNotB (.bl a) (.bl b) H (.bl (!decide (a = b))) := fun H1 _ _ q => ⟨a, b, rfl, rfl, q H1 (Ex.refl H1)⟩
theorem et_yes : EvT tYes σ H true := fun H1 _ _ q => q H1 (Ex.refl H1)
/-- sep.join(xs) -/
def rJoin (K : PySem.W.Frag) : V → List V → Hp → VK → Prop := fun x xs H Q => ∃ a p, ∃ ys : List Str, x = .str a ∧ xs = [.ref p] ∧ (SqL K H p (ys.map V.str) ∨ SqT K H p (ys.map V.str)) ∧
      (ys.map (·.length)).sum + ys.length * a.length ≤ 16777216 ∧ Q (.str (Txt.join a ys)) H
theorem x_join {cs : List Nat} (h1 : Ev to σ H (.str (Str.ofString ""))) (h2 : EvX te σ H (Ls K ((cs.map sg).map V.str))) (hl : cs.length ≤ 100000) : Ev (tM1 (rJoin K) to te) σ H (.str (ofL cs)) := fun H1 e Q q =>
  h1 H1 e _ fun H2 e2 => ⟨⟨_, rfl⟩, h2 H2 (e.trans e2) _ fun v H3 e3 ⟨p, hv, hp⟩ => ⟨_, p, cs.map sg, rfl, by rw [hv], .inl hp, by
    have l0 : (Str.ofString "").length = 0 := rfl
    rw [sg_len, l0]
    omega, by
    rw [join_sg]
    exact q H3 (e2.trans e3)⟩⟩
/-- a walk over a text's signs -/
theorem q_forStr {D : Ends} {tu tz : TS} {z : Str} {j : Nat} (h : Ev te σ H (.str z)) (Pv : Nat → L2.St → Hp → Prop) (h0 : ∀ H1, Ex H H1 → Pv 0 σ H1)
    (hs : ∀ i c σ' H', z.cps.toList[i]? = some c → Pv i σ' H' → tu { D with nx := Pv (i + 1), ct := Pv (i + 1), bk := tz D } (σ'.set j (some (.str ⟨#[c]⟩))) H') (hd : ∀ σ' H', Pv z.cps.toList.length σ' H' → tz D σ' H') :
    tSeq (tFor (iStr te) (gName j) tu) tz D σ H := h H (Ex.refl H) _ fun H1 e => ⟨z, rfl, for_it (D := { D with nx := tz D }) (walk_str (z := z)) Pv (h0 H1 e) (fun _ _ _ _ _ => trivial) (fun i x σ' H' H'' hi p y => by
      obtain ⟨rfl, c, hc, rfl⟩ := y
      exact hs i c σ' _ (by rw [← hc]; simp) p) (fun σ' H' p => hd σ' H' (by simpa using p))⟩
/-- [e for c in s] -/
theorem el_lcS {z : Str} {tl : TE} {j : Nat} {vs : List Nat} (v : Nat → V) (h : Ev tl σ H (.str z)) (hz : z.cps.toList.length ≤ 40000) (hw : ∀ x, wipe ((wipe σ vs).set j (some x)) vs = wipe σ vs)
    (he : ∀ (i : Nat) (c : Nat) H1, Ex H H1 → z.cps.toList[i]? = some c → Ev te ((wipe σ vs).set j (some (.str ⟨#[c]⟩))) H1 (v c)) :
    EvL (tLc (iStr tl) (gName j) tYes te vs) σ H (z.cps.toList.map v) := fun H0 e Q q => h H0 e _ fun H1 e1 => ⟨z, rfl, fun Dl hD =>
  lc_it (walk_str (z := z)) (Cw H1 (fun _ => true) (fun i => v (z.cps.toList[i]?.getD 0)) Dl) ⟨hD, Ex.new hD, upd_same⟩ (fun _ _ _ _ => trivial) (fun i x H' H'' hi p y => by
      obtain ⟨rfl, c, hc, rfl⟩ := y
      have hc' : z.cps.toList[i]? = some c := by rw [← hc]; simp
      have hi' : i < z.cps.toList.length := by simpa using hi
      exact ⟨hw _, cw_turn p (by omega) et_yes (fun _ => by
        have := he i c H1 (e.trans e1) hc'
        rw [hc']
        exact this)⟩) (fun H' p => by
      refine q Dl H' (fresh_back e1 p.1) (e1.trans p.2.1) ?_
      rw [p.2.2]
      congr 2
      unfold given
      rw [List.filter_eq_self.mpr (fun _ _ => rfl)]
      refine List.ext_getElem? fun i => ?_
      rw [List.getElem?_map, List.getElem?_map]
      by_cases hi : i < z.cps.size
      · rw [List.getElem?_range hi]
        have hi' : i < z.cps.toList.length := by simpa using hi
        rw [List.getElem?_eq_getElem hi']
        simp [hi]
      · rw [List.getElem?_eq_none (by simp; omega), List.getElem?_eq_none (by simp; omega)]
        rfl)⟩
theorem given_all (n : Nat) (v : Nat → V) : given n (fun _ => true) v = (List.range n).map v := by
  unfold given
  rw [List.filter_eq_self.mpr (fun _ _ => rfl)]
end
local macro_rules | `(tactic| walk_at "len") => `(tactic| first | assumption | exact Nat.le_of_ble_eq_true rfl | omega | decide +kernel)
local macro_rules | `(tactic| walk_at "rv") => `(tactic| first | with_reducible exact rv_isB | with_reducible exact rv_notB | exact rv_leStr | exact rv_notInS | (apply rv_addStr; walk_at "len"))
local macro_rules | `(tactic| walk_at "rc") => `(tactic| (apply rc_lenStr; walk_at "len"))
local macro_rules | `(tactic| walk_at "xc") => `(tactic| ((with_reducible apply ev_chain); (focus (walk_at "ev")); (focus (walk_at "ev")); (focus (walk_at "rv")); (focus (intro _; walk_at "ev")); (intro _; walk_at "rv")))

section
variable {K : PySem.W.Frag} {σ : L2.St} {H H' : Hp} {ta tb tc te tl' to : TE} {x y z w v : V} {r r' : R2}
theorem x_all {bs : List Bool} (h : EvL te σ H (bs.map V.bl)) : Ev (tCB (rAll K) (tCons te tNil)) σ H (.bl (bs.all id)) := fun H1 e Q q =>
  h H1 e _ fun p H2 _ e2 h2 => ⟨p, bs, rfl, sq_of h2, q H2 e2⟩
theorem tyof_mono {t : Value} (e : Ex H H') (h : TyOf K H x t) : TyOf K H' x t := by
  cases h with
  | non => exact .non
  | bl b => exact .bl b
  | int i => exact .int i
  | str s => exact .str s
  | flt b => exact .flt b
  | lst h => exact .lst (e _ _ h)
  | frz h => exact .frz (e _ _ h)
  | tup h => exact .tup (e _ _ h)
  | dK h => exact .dK (e _ _ h)
  | dT h => exact .dT (e _ _ h)
  | ins h a b c d f => exact .ins (e _ _ h) a b c d f
theorem tyx_mono {t : Value} (e : Ex H H') (h : TyX K H x t) : TyX K H' x t := by
  cases h with
  | base h => exact .base (tyof_mono e h)
  | byt b => exact .byt b
  | set h => exact .set (e _ _ h)
  | kList h c => exact .kList h c
  | kTuple h c => exact .kTuple h c
  | kDict h c => exact .kDict h c
  | fTuple h => exact .fTuple (e _ _ h)
  | fDict h => exact .fDict (e _ _ h)
/-- all of as many values keep P -/
def AllP (P : VP) (n : Nat) : List V → Hp → Prop := fun vs H => vs.length = n ∧ ∀ v ∈ vs, P v H
theorem AllP.mono {P : VP} [Mono P] {n : Nat} {vs : List V} (e : Ex H H') (h : AllP P n vs H) : AllP P n vs H' := ⟨h.1, fun v hv => Mono.mono e (h.2 v hv)⟩
theorem axA_nil {P : VP} : EvXA tNil σ H (AllP P 0) := fun H1 _ Q q => q [] H1 (Ex.refl H1) ⟨rfl, fun _ h => by cases h⟩
theorem axA_cons {P : VP} [Mono P] {n : Nat} {tr : TA} (h : EvX te σ H P) (hr : EvXA tr σ H (AllP P n)) : EvXA (tCons te tr) σ H (AllP P (n + 1)) := fun H1 e Q q =>
  h H1 e _ fun v H2 e2 hv => hr H2 (e.trans e2) _ fun r H3 e3 hr' => q _ H3 (e2.trans e3) ⟨by rw [List.length_cons, hr'.1], fun u hu => by
    rcases List.mem_cons.mp hu with rfl | hu
    · exact Mono.mono e3 hv
    · exact hr'.2 u hu⟩
theorem x_lstA {P : VP} [Mono P] {n : Nat} {ta : TA} (h : EvXA ta σ H (AllP P n)) (hn : n ≤ 100000) : EvX (tLst ta) σ H (fun v H2 => ∃ p vs, v = .ref p ∧ H p = none ∧ H2 p = some (.lst vs) ∧ AllP P n vs H2) := fun H1 e Q q =>
  h H1 e _ fun vs H2 e2 hv => ⟨sz_of (by rw [hv.1]; exact hn), fun p hp => q _ _ (e2.trans (Ex.new hp)) ⟨p, vs, rfl, fresh_back e (fresh_back e2 hp), upd_same, hv.mono (Ex.new hp)⟩⟩
/-- {k: v}, one pair -/
theorem x_disp1 {tk tv : TE} {s : Str} {v : V} (hk : Ev tk σ H (.str s)) (hv : Ev tv σ H v) : EvX (tDisp [(tk, tv)]) σ H (Nw H (.dK [(.inr s, v)])) := fun H1 e Q q => fun p hp =>
  hk _ (e.trans (Ex.new hp)) _ fun H2 e2 => hv H2 ((e.trans (Ex.new hp)).trans e2) _ fun H3 e3 => ⟨e3 _ _ (e2 _ _ upd_same), [(.inr s, v)], rfl, Nat.le_of_ble_eq_true rfl, q _ _ (Ex.mut (((Ex.new hp).trans e2).trans e3) hp) ⟨p, rfl, fresh_back e hp, upd_same⟩⟩
end

theorem pg_tupK {X : Cx} {K : PySem.W.Frag} {es : List Expr} {pos : Pos} {k : Nat} {t : TGs} {n : Nat} (hK : X.K = K) (hc : X.calm = true) (h : PGs X es t) (hn : (assignEach es X.env).length = n) (hst : (assignEach es X.env).findIdx? (·.1) = none) : PG X (.Tuple es k pos) (gTup K n t) := by
  subst hK
  exact pg_tup hc h hn hst
section
variable {K : PySem.W.Frag} {σ : L2.St} {H H' : Hp} {te : TE}
theorem map_range_get {α β : Type} (xs : List α) (d : α) (v : α → β) : (List.range xs.length).map (fun i => v (xs[i]?.getD d)) = xs.map v := by
  refine List.ext_getElem? fun i => ?_
  rw [List.getElem?_map, List.getElem?_map]
  by_cases hi : i < xs.length
  · rw [List.getElem?_range hi, List.getElem?_eq_getElem hi]
    simp [hi]
  · rw [List.getElem?_eq_none (by simp; omega), List.getElem?_eq_none (by omega)]
    rfl
/-- [e for x in t], t a tuple -/
theorem el_lcT {a : Addr} {xs : List V} {tl : TE} {j : Nat} {vs : List Nat} (v : V → V) (h : Ev tl σ H (.ref a)) (hx : SqT K H a xs) (hz : xs.length ≤ 40000) (hw : ∀ x, wipe ((wipe σ vs).set j (some x)) vs = wipe σ vs)
    (he : ∀ (x : V) H1, Ex H H1 → x ∈ xs → Ev te ((wipe σ vs).set j (some x)) H1 (v x)) :
    EvL (tLc (iTup K tl) (gName j) tYes te vs) σ H (xs.map v) := fun H0 e Q q => h H0 e _ fun H1 e1 => ⟨a, rfl, ⟨xs, ex_t (e.trans e1) hx⟩, fun Dl hD =>
  lc_it (walk_tup (K := K) (a := a) (xs := xs)) (Cw H1 (fun _ => true) (fun i => v (xs[i]?.getD .non)) Dl) ⟨hD, Ex.new hD, upd_same⟩ (fun i H' hi p => ex_t ((e.trans e1).trans p.2.1) hx) (fun i x H' H'' hi p y => by
      obtain ⟨rfl, hc⟩ := y
      exact ⟨hw _, cw_turn p (by omega) et_yes (fun _ => by
        have := he x H1 (e.trans e1) (List.mem_of_getElem? hc)
        rw [hc]
        exact this)⟩) (fun H' p => by
      refine q Dl H' (fresh_back e1 p.1) (e1.trans p.2.1) ?_
      rw [p.2.2, given_all, map_range_get])⟩
end
/-! ### a dict that is walked: locked, then as before -/
section
variable {K : PySem.W.Frag} {H H' : Hp} {d : Addr} {od : Obj} {kvs : List (Key × V)}
theorem lock_t {q : Addr} {xs : List V} (hd : H d = some (.dK kvs)) (h : SqT K H q xs) : SqT K (upd H d (.frz od (.dK kvs))) q xs := by
  rcases h with (h | ⟨o, h⟩) | h
  · exact .inl (.inl (by rw [upd_ne (ne_of h hd (by intro z; cases z))]; exact h))
  · exact .inl (.inr ⟨o, by rw [upd_ne (ne_of h hd (by intro z; cases z))]; exact h⟩)
  · exact .inr h
theorem lock_ty {x : V} {t : Value} (hd : H d = some (.dK kvs)) (h : TyX K H x t) : TyX K (upd H d (.frz od (.dK kvs))) x t := by
  cases h with
  | base h =>
    cases h with
    | non => exact .base .non
    | bl b => exact .base (.bl b)
    | int i => exact .base (.int i)
    | str s => exact .base (.str s)
    | flt b => exact .base (.flt b)
    | lst h => exact .base (.lst (by rw [upd_ne (ne_of h hd (by intro z; cases z))]; exact h))
    | frz h => exact .base (.frz (by rw [upd_ne (ne_of h hd (by intro z; cases z))]; exact h))
    | tup h => exact .base (.tup (by rw [upd_ne (ne_of h hd (by intro z; cases z))]; exact h))
    | @dK a kvs' h =>
      by_cases e : a = d
      · subst e
        exact .fDict upd_same
      · exact .base (.dK (by rw [upd_ne e]; exact h))
    | dT h => exact .base (.dT (by rw [upd_ne (ne_of h hd (by intro z; cases z))]; exact h))
    | ins h a b c d f => exact .base (.ins (by rw [upd_ne (ne_of h hd (by intro z; cases z))]; exact h) a b c d f)
  | byt b => exact .byt b
  | set h => exact .set (by rw [upd_ne (ne_of h hd (by intro z; cases z))]; exact h)
  | kList h c => exact .kList h c
  | kTuple h c => exact .kTuple h c
  | kDict h c => exact .kDict h c
  | fTuple h => exact .fTuple (by rw [upd_ne (ne_of h hd (by intro z; cases z))]; exact h)
  | fDict h => exact .fDict (by rw [upd_ne (ne_of h hd (by intro z; cases z))]; exact h)
theorem unlock {u : HO} (hd : H d = some u) (e : Ex (upd H d (.frz od u)) H') : Ex H (upd H' d u) := fun a o h => by
  by_cases hq : a = d
  · subst hq
    rw [hd] at h
    rw [upd_same]
    exact h
  · rw [upd_ne hq]
    exact e a o (by rw [upd_ne hq]; exact h)
theorem lock_free {u : HO} {a : Addr} (hd : H d = some u) (e : Ex (upd H d (.frz od u)) H') (h : H' a = none) : H a = none := by
  have h1 := fresh_back e h
  by_cases hq : a = d
  · subst hq
    rw [upd_same] at h1
    cases h1
  · rw [upd_ne hq] at h1
    exact h1
end
section
variable {K : PySem.W.Frag} {σ : L2.St} {H H' : Hp} {te td : TE}
theorem ex_upd2 {d : Addr} {o : HO} (e : Ex H H') : Ex (upd H d o) (upd H' d o) := fun a u h => by
  by_cases hq : a = d
  · subst hq
    rw [upd_same] at h ⊢
    exact h
  · rw [upd_ne hq] at h ⊢
    exact e a u h
/-- [e for k, x in d.items()] -/
theorem el_lockItems {d : Addr} {kvs : List (Key × V)} {i j n : Nat} {vs : List Nat} (vals : List V) (hv : vals.length = kvs.length) (hd : H d = some (.dK kvs)) (h : ∀ H', Ev td σ H' (.ref d)) (hn : n = 2) (hz : kvs.length ≤ 30000)
    (hw : ∀ x y, wipe (((wipe σ vs).set i (some x)).set j (some y)) vs = wipe σ vs) (he : ∀ (m : Nat) (kv : Key × V) (u : V), kvs[m]? = some kv → vals[m]? = some u → ∀ od H1, Ex (upd H d (.frz od (.dK kvs))) H1 → Ev te (((wipe σ vs).set i (some (kV kv.1))).set j (some kv.2)) H1 u) :
    EvL (tLockE (tLc (iItems td) (gTup K n (gCons (gName i) (gCons (gName j) gNil))) tYes te vs)) σ H vals := fun H0 e Q q => by
  refine ⟨d, .dK kvs, e _ _ hd, trivial, fun od => ?_⟩
  refine h _ _ (Ex.refl _) _ fun H2 e2 => ?_
  have hd2 : H2 d = some (.frz od (.dK kvs)) := e2 d _ upd_same
  have e02 : Ex (upd H d (.frz od (.dK kvs))) H2 := (ex_upd2 e).trans e2
  refine ⟨d, od, kvs, rfl, hd2, fun Dl hD => ?_⟩
  refine lc_it (walk_items (d := d) (o := od) (kvs := kvs)) (Cw H2 (fun _ => true) (fun i => vals[i]?.getD .non) Dl) ⟨hD, Ex.new hD, upd_same⟩ (fun _ H' _ p => p.2.1 d _ hd2) (fun m x H' H'' hi p y => ?_) (fun H' p => ?_)
  · obtain ⟨T, a, b, rfl, hT, rfl, ha, hb⟩ := y
    have p' : Cw H2 (fun _ => true) (fun i => vals[i]?.getD .non) Dl m (upd H' T (.tup [a, b])) := ⟨p.1, p.2.1.trans (Ex.new hT), by rw [upd_ne (ne_of_none p.2.2 hT)]; exact p.2.2⟩
    have hkv : kvs[m]? = some kvs[m] := List.getElem?_eq_getElem hi
    have hi' : m < vals.length := by omega
    have hu : vals[m]? = some vals[m] := List.getElem?_eq_getElem hi'
    have ha' : a = kV kvs[m].1 := by
      have ha : Option.map (fun kv => kV kv.1) kvs[m]? = some a := ha
      rw [hkv] at ha
      exact (Option.some.inj ha).symm
    have hb' : b = kvs[m].2 := by
      have hb : Option.map Prod.snd kvs[m]? = some b := hb
      rw [hkv] at hb
      exact (Option.some.inj hb).symm
    refine ⟨T, [a, b], rfl, .inl (.inl upd_same), by rw [hn]; rfl, a, [b], rfl, b, [], rfl, rfl, hw a b, ?_⟩
    refine cw_turn p' (by omega) et_yes (fun _ => ?_)
    rw [hu, ha', hb']
    exact he m kvs[m] vals[m] hkv hu od H2 e02
  · have hne : Dl ≠ d := fun z => by
      rw [z, hd2] at hD
      cases hD
    refine ⟨p.2.1 d _ hd2, q Dl _ (lock_free (e _ _ hd) e2 hD) (unlock (e _ _ hd) (e2.trans p.2.1)) ?_⟩
    rw [upd_ne hne, p.2.2, given_all, ← hv, map_range_get vals .non (fun x => x), List.map_id']
end

/-! ### two tuples of two numbers, alike or not -/
section
variable {K : PySem.W.Frag} {H : Hp} {x y : V}
theorem rv_neD {d e : PyData} (h1 : ∀ H1, Ex H H1 → Dp K H1 x d) (h2 : ∀ H1, Ex H H1 → Dp K H1 y e) (s1 : SeqAt.shaped d = true) (s2 : SeqAt.shaped e = true) : RV (rNeD K) x y H (.bl (!PyData.eqv d e)) := fun H1 e _ q => ⟨_, _, h1 H1 e, h2 H1 e, s1, s2, q H1 (Ex.refl H1)⟩
theorem rv_eqD {d e : PyData} (h1 : ∀ H1, Ex H H1 → Dp K H1 x d) (h2 : ∀ H1, Ex H H1 → Dp K H1 y e) (s1 : SeqAt.shaped d = true) (s2 : SeqAt.shaped e = true) : RV (rEqD K) x y H (.bl (PyData.eqv d e)) := fun H1 e _ q => ⟨_, _, h1 H1 e, h2 H1 e, s1, s2, q H1 (Ex.refl H1)⟩
theorem dp_two {q : Addr} {a b : Int} (h : SqT K H q [.int a, .int b]) : Dp K H (.ref q) (.tuple [.int a, .int b]) := .tup h (.cons (.int a) (.cons (.int b) .nil))
theorem eqv_two (a b c d : Int) : PyData.eqv (.tuple [.int a, .int b]) (.tuple [.int c, .int d]) = (decide (a = c) && decide (b = d)) := by
  simp [PyData.eqv, PyData.eqvAll, Bool.beq_eq_decide_eq]
theorem shaped_two (a b : Int) : SeqAt.shaped (.tuple [.int a, .int b]) = true := by
  simp [SeqAt.shaped, PyData.canLay0, PyData.canLayAll0, PyData.depth, PyData.depthAll]
end

/-! ### sorted(d), the keys texts, any number of them -/
open PyProof.Rows in
def signsV : Value → List Nat
  | .str x _ => x.cps.toList
  | _ => []
def ltSg (v u : Value) : Bool := decide (signsV v < signsV u)
theorem swo_sg : SrtO.Swo ltSg := ⟨fun x y h => decide_eq_false fun h2 => List.lt_asymm (of_decide_eq_true (p := signsV x < signsV y) h) h2,
  fun x y z h1 h2 => by
    have a := of_decide_eq_false (p := signsV y < signsV x) h1
    have b := of_decide_eq_false (p := signsV z < signsV y) h2
    exact decide_eq_false (p := signsV z < signsV x) (List.le_trans (show signsV x ≤ signsV y from a) (show signsV y ≤ signsV z from b))⟩
section
variable {prog : Program} {w : World} {A : Around} {s : Shared}
theorem strs_each : ∀ {vs : List Value} {ss : List Str}, PyProof.Rows.StrsAre vs ss → ∀ v ∈ vs, ∃ x t, v = Value.str x t
  | _, _, .nil, v, h => absurd h List.not_mem_nil
  | _, _, .cons x t r, v, h => by
    rcases List.mem_cons.mp h with e | h
    · exact ⟨x, t, e⟩
    · exact strs_each r v h
theorem strs_of : ∀ {vs : List Value}, (∀ v ∈ vs, ∃ x t, v = Value.str x t) → PyProof.Rows.StrsAre vs (vs.map fun v => ofL (signsV v))
  | [], _ => .nil
  | v :: vs, h => by
    obtain ⟨x, t, e⟩ := h v List.mem_cons_self
    subst e
    have e2 : ofL (signsV (.str x t)) = x := ofL_eta x
    rw [List.map_cons, e2]
    exact .cons x t (strs_of fun u hu => h u (List.mem_cons_of_mem _ hu))
theorem of_strs : ∀ {vs : List Value} {ss : List Str}, PyProof.Rows.StrsAre vs ss → (vs.map fun v => ofL (signsV v)) = ss
  | _, _, .nil => rfl
  | _, _, .cons x t r => by
    rw [List.map_cons, of_strs r]
    congr 1
theorem sortable_sg {a : Addr} {vs : List Value} {ss : List Str} (hS : PyProof.Rows.StrsAre vs ss) (h2 : 2 ≤ vs.length) : SrtO.SortableO prog w A s a vs ltSg := by
  intro h' _
  refine ⟨PyProof.Rows.oneType', fun Q E hq => ?_, fun p q hp hq => ?_⟩
  · match vs, hS, h2 with
    | a :: b :: r, hS, _ =>
      rw [PyProof.Rows.keyKind_strs hS]
      exact wpAny_pure hq
    | [], _, h => exact absurd h (by decide)
    | [v], _, h => exact absurd h (by simp)
  · obtain ⟨x, t, e⟩ := strs_each hS _ hp
    obtain ⟨y, u, e'⟩ := strs_each hS _ hq
    show wpAny (model prog w) A (PyProof.Rows.keyLt' PyProof.Rows.oneType' p.1 q.1) (fun r s' => s' = _ ∧ r = ltSg p.1 q.1) (fun _ _ => False) _
    rw [e, e', PyProof.Rows.keyLt'_oneType]
    exact PyProof.Rows.oneLt_str ⟨rfl, rfl⟩
end
def rSortD : List V → Hp → VK → Prop := fun xs H Q => ∃ (a : Addr) (kvs : List (Key × V)) (ks : List Str), xs = [.ref a] ∧ Rd H a (.dK kvs) ∧ kvs.map (·.1) = ks.map Sum.inr ∧ ks.length ≤ 100000 ∧
  ∀ (ys : List Str) (p : Addr), ys.Perm ks → ys.Pairwise (fun x y => ¬ y.cps.toList < x.cps.toList) → H p = none → Q (.ref p) (upd H p (.lst (ys.map V.str)))
theorem pw_of {out : List Value} (h : SrtO.Srtd ltSg out) : (out.map fun v => ofL (signsV v)).Pairwise fun x y => ¬ y.cps.toList < x.cps.toList :=
  List.pairwise_map.mpr (h.imp fun {x y} g => of_decide_eq_false (p := signsV y < signsV x) g)
theorem gc_sortedD {X : Cx} (hcalm : X.calm = true) : CallR X (.builtin "sorted") rSortD := by
  intro pins s σ H xs us Q I r ⟨a, kvs, ks, ex, hd, hks, hlk, q⟩
  subst ex
  obtain ⟨u, rfl, rx⟩ := vals1 r
  cases (show u = Value.ref a from rx)
  obtain ⟨_, lo, vs, rel, dd⟩ := dk_rd I.hok hd
  obtain ⟨ep, hat⟩ := dd.dictAt
  have hkeys : vs.map Prod.fst = ks.map Sum.inr := (rel.keys.symm.trans hks)
  have hl : vs.length = ks.length := by simpa using congrArg List.length hkeys
  have hsz : vs.length ≤ sizeLine := sz_of (by rw [hl]; exact hlk)
  refine Calls.call_function_entry PyProof.Rows.kind_sorted PyProof.Rows.plain_sorted PyProof.Rows.entry_sorted (PyProof.Rows.args_sorted1 _) (?_ : wpAny _ _ (Builtin.«sorted» _) _ _ _)
  unfold Builtin.«sorted»
  refine wpAny_bind (m := checkCount "sorted" 1 1 _) (wpAny_pure (wpAny_bind (PySem.W.kdu_collect (A := X.A.in1) (PySem.W.kdl_dict (knd := mixKind X.prog X.w) (kvs := vs) (ep := ep) lo) (I.ok.hd hcalm) hat hsz fun h1 tk acc hk hacc => ?_)))
  have hal : acc.toList.length = ks.length := (by rw [Array.length_toList, hacc.1, hl])
  have hS : PyProof.Rows.StrsAre acc.toList ks := strs_at hal fun j v e => by
    obtain ⟨k, x, g1, g2⟩ := hacc.2 j v (by simpa using e)
    have g3 : (vs.map Prod.fst)[j]? = some k := by simp [g1]
    rw [hkeys, List.getElem?_map] at g3
    cases g4 : ks[j]? with
    | none => simp [g4] at g3
    | some y =>
      rw [g4] at g3
      obtain rfl : Sum.inr y = k := Option.some.inj g3
      obtain ⟨t, ev⟩ := Value.isStrOf_shape (x := y) (v := v) g2
      exact ⟨y, t, rfl, ev⟩
  have I1 : Inv X pins σ H { s with heap := h1, toks := tk } := I.kept hk
  have hz : acc.toList.length ≤ sizeLine := by rw [hal]; exact sz_of hlk
  refine wpAny_bind (wpAny_newList (?_ : wpAny _ _ _ _ _ { s with heap := h1.push (PyProof.Rows.seqObj "list" acc.toList.toArray 0), toks := tk }) (by rw [Array.length_toList] at hz; exact hz))
  have hoL : (h1.push (PyProof.Rows.seqObj "list" acc.toList.toArray 0)).get? h1.objs.size = some (PyProof.Rows.seqObj "list" acc.toList.toArray 0) := (Heap.get?_push_size _ rfl)
  refine wpAny_bind (wpAny_holding (wpAny_call_entry PyProof.Rows.slot_list_sort ⟨_, hoL, rfl⟩ PyProof.Rows.entry_list_sort (SrtO.list_sort_ord swo_sg hoL hz (fun h2 => sortable_sg hS h2) fun out o1 o2 => ⟨_, rfl, ?_⟩) (PyProof.Rows.args_list_sort _)))
  have hm : ∀ v ∈ out, ∃ x t, v = Value.str x t := fun v hv => strs_each hS v (o2.perm.mem_iff.mp hv)
  have hp : (out.map fun v => ofL (signsV v)).Perm ks := by
    have := o2.perm.map fun v => ofL (signsV v)
    rw [of_strs hS] at this
    exact this
  obtain ⟨e', he'⟩ := PyProof.Rows.sortedHeap_at (vs := acc.toList) (out := out.toArray) hoL
  refine wpAny_pure ⟨_, rfl, .ref h1.objs.size, upd H h1.objs.size (.lst ((out.map fun v => ofL (signsV v)).map V.str)), I1.laid (t' := tk) (fun b u e => ?_) (Nat.le_refl _) (show ObjOk X.prog X.w _ _ _ (.lst _) from ⟨by rw [List.length_map, hp.length_eq]; exact sz_of hlk, out, e', vals_of_strs (strs_of hm), he'⟩), rfl, q _ _ hp (pw_of o1) (I1.hok.fresh (Nat.le_refl _))⟩
  have hb := Heap.lt_size e
  have hb2 : b < (h1.push (PyProof.Rows.seqObj "list" acc.toList.toArray 0)).objs.size := by rw [PyProof.Rows.size_push']; exact Nat.lt_succ_of_lt hb
  exact (PyProof.Rows.sortedHeap_old (Nat.ne_of_lt hb) hb2).trans (Heap.get?_push_of_some _ e)

/-! ### dicts copied, alike, with one put in -/
section
theorem putK_len {kvs : List (Key × V)} {k : Key} {v : V} : (putK kvs k v).length ≤ kvs.length + 1 := by
  unfold putK
  split
  · rw [List.length_map]; omega
  · rw [List.length_append]; simp
theorem putK_nd {kvs : List (Key × V)} {k : Key} {v : V} (h : (kvs.map (·.1)).Nodup) : ((putK kvs k v).map (·.1)).Nodup := by
  cases e : valV kvs k with
  | none => exact nd_putK v h e
  | some u =>
    have he : (kvs.any fun kv => decide (kv.1 = k)) = true := by
      rw [valV_any, e]
      rfl
    unfold putK
    rw [if_pos he, List.map_map]
    have : ((fun x : Key × V => x.1) ∘ fun kv : Key × V => if kv.1 = k then (kv.1, v) else kv) = fun x => x.1 := by
      funext x
      show (if x.1 = k then (x.1, v) else x).1 = x.1
      split <;> rfl
    rw [this]
    exact h
theorem putK_full {kvs : List (Key × V)} {k : Key} {v : V} (h : (putK kvs k v).length = kvs.length + 1) : putK kvs k v = kvs ++ [(k, v)] := by
  unfold putK at h ⊢
  split
  · rename_i e
    rw [if_pos e, List.length_map] at h
    omega
  · rfl
end
section
variable {X : Cx}
/-- == and != of two dicts with the same pairs: values alike in place or plain -/
theorem hits_same {A : Around} {s : Shared} {kvs : List (Key × V)} {vb : List (Key × Value)} (rb : KV kvs vb) {ks : List (Key × V)} {va : List (Key × Value)} (ra : KV ks va) :
    (∀ p ∈ ks, valV kvs p.1 = some p.2 ∧ (flatB p.2 = true ∨ ∃ a, p.2 = .ref a)) → PySem.W.KeqHits A s vb va true := by
  unfold KV at ra
  induction ra with
  | nil => intro _; exact .nil
  | @cons p q ps qs h t ih =>
    intro hp
    obtain ⟨h1, h2⟩ := h
    obtain ⟨e, f⟩ := hp p List.mem_cons_self
    have rr : RelO (some p.2) (PySem.valueAt vb p.1) := by rw [← e]; exact rb.val p.1
    obtain ⟨y, hy, ry⟩ := rr.some_of
    obtain ⟨k, v⟩ := q
    have h1' : p.1 = k := h1
    rw [h1'] at hy
    show PySem.W.KeqHits A s vb ((k, v) :: qs) (true && true)
    refine .hit hy ?_ (ih fun p' hm => hp p' (List.mem_cons_of_mem _ hm))
    rcases f with f | ⟨a, f⟩
    · exact eqAt_same h2 ry f
    · rw [f] at h2 ry
      cases (show v = Value.ref a from h2)
      cases (show y = Value.ref a from ry)
      exact SeqAt.EqAt.same _
def rDictSame (r : Bool) : R2 := fun x y H Q => ∃ a b ks ls, x = .ref a ∧ y = .ref b ∧ H a = some (.dK ks) ∧ H b = some (.dK ls) ∧
  ((ks.length = ls.length ∧ (∀ p ∈ ks, valV ls p.1 = some p.2 ∧ (flatB p.2 = true ∨ ∃ a, p.2 = .ref a)) ∧ Q (.bl r) H) ∨ (ks.length ≠ ls.length ∧ Q (.bl (!r)) H))
theorem gc_ne_dict (hu : X.A.units < cLine) : OpR X (compareOp .NotEq) (rDictSame false) := by
  intro pins s σ H x y v u Q I rx ry h
  obtain ⟨a, b, ks, ls, rfl, rfl, ea, eb, h⟩ := h
  obtain rfl : v = Value.ref a := rx
  obtain rfl : u = Value.ref b := ry
  obtain ⟨_, ya, va, ra, da⟩ := (show ObjOk X.prog X.w H s.heap a (.dK ks) from I.hok a _ ea)
  obtain ⟨_, yb, vb, rb, db⟩ := (show ObjOk X.prog X.w H s.heap b (.dK ls) from I.hok b _ eb)
  have l1 := ra.length
  have l2 := rb.length
  rcases h with ⟨hlen, hp, q⟩ | ⟨hlen, q⟩
  · have hl : va.length = vb.length := by rw [← l1, ← l2]; exact hlen
    exact PySem.W.keq_ne (knd := mixKind X.prog X.w) (r := true) ya yb da db hu (fun _ => hits_same rb ra hp) (fin_bl I q (by simp [hl]))
  · have hl : va.length ≠ vb.length := by rw [← l1, ← l2]; exact hlen
    exact PySem.W.keq_ne (knd := mixKind X.prog X.w) (r := true) ya yb da db hu (fun z => absurd z hl) (fin_bl I q (by simp [hl]))
theorem gc_eq_dict (hu : X.A.units < cLine) : OpR X (compareOp .Eq) (rDictSame true) := by
  intro pins s σ H x y v u Q I rx ry h
  obtain ⟨a, b, ks, ls, rfl, rfl, ea, eb, h⟩ := h
  obtain rfl : v = Value.ref a := rx
  obtain rfl : u = Value.ref b := ry
  obtain ⟨_, ya, va, ra, da⟩ := (show ObjOk X.prog X.w H s.heap a (.dK ks) from I.hok a _ ea)
  obtain ⟨_, yb, vb, rb, db⟩ := (show ObjOk X.prog X.w H s.heap b (.dK ls) from I.hok b _ eb)
  have l1 := ra.length
  have l2 := rb.length
  rcases h with ⟨hlen, hp, q⟩ | ⟨hlen, q⟩
  · have hl : va.length = vb.length := by rw [← l1, ← l2]; exact hlen
    exact PySem.W.keq_eq (knd := mixKind X.prog X.w) (r := true) ya yb da db hu (fun _ => hits_same rb ra hp) (fin_bl I q (by simp [hl]))
  · have hl : va.length ≠ vb.length := by rw [← l1, ← l2]; exact hlen
    exact PySem.W.keq_eq (knd := mixKind X.prog X.w) (r := true) ya yb da db hu (fun z => absurd z hl) (fin_bl I q (by simp [hl]))
end
section
variable {K : PySem.W.Frag} {σ : L2.St} {H H' : Hp} {ta tb te td tk tv : TE} {x y v : V}
def rDictCopy : List V → Hp → VK → Prop := fun xs H Q => ∃ (a : Addr) (kvs : List (Key × V)), xs = [.ref a] ∧ Rd H a (.dK kvs) ∧ ∀ p, H p = none → Q (.ref p) (upd H p (.dK kvs))
theorem x_dcopy {a : Addr} {kvs : List (Key × V)} (h : Ev ta σ H (.ref a)) (hd : H a = some (.dK kvs)) : EvX (tCB rDictCopy (tCons ta tNil)) σ H (Nw H (.dK kvs)) := fun H1 e Q q =>
  h H1 e _ fun H2 e2 => ⟨a, kvs, rfl, .inl (e2 _ _ (e _ _ hd)), fun p hp => q _ _ (e2.trans (Ex.new hp)) ⟨p, rfl, fresh_back e (fresh_back e2 hp), upd_same⟩⟩
end
section
variable {K : PySem.W.Frag} {σ : L2.St} {H H' : Hp} {ta tb te td tk tv : TE} {x y v : V} {D : Ends} {tz : TS} {P P1 P2 : VP}
theorem x_tup2X [Mono P1] [Mono P2] (h1 : EvX ta σ H P1) (h2 : EvX tb σ H P2) : EvX (tTup (tCons ta (tCons tb tNil))) σ H (fun v H2 => ∃ p a b, v = .ref p ∧ H p = none ∧ H2 p = some (.tup [a, b]) ∧ P1 a H2 ∧ P2 b H2) := fun H1 e Q q =>
  h1 H1 e _ fun a H2 e2 ha => h2 H2 (e.trans e2) _ fun b H3 e3 hb => ⟨Nat.le_of_ble_eq_true rfl, fun p hp => q _ _ ((e2.trans e3).trans (Ex.new hp)) ⟨p, a, b, rfl, fresh_back e (fresh_back (e2.trans e3) hp), upd_same, Mono.mono (e3.trans (Ex.new hp)) ha, Mono.mono (Ex.new hp) hb⟩⟩
theorem qx_setL {l : Addr} {xs : List V} {j : Nat} (hl : H l = some (.lst xs)) (h : EvX te σ H P) (ho : Ev ta σ H (.ref l)) (hi : Ev tb σ H (.int (j : Int))) (hj : j < xs.length) (hm : ∀ v H1 H2, Ex H1 H2 → P v H1 → P v H2) (k : ∀ v H1, Ex H H1 → P v H1 → tz D σ (upd H1 l (.lst (xs.set j v)))) :
    tSeq (tAsg te (gSub ta tb rSetL)) tz D σ H := h H (Ex.refl H) _ fun v H1 e1 hv => ho H1 e1 _ fun H2 e2 => hi H2 (e1.trans e2) _ fun H3 e3 =>
  ⟨l, xs, (j : Int), j, rfl, rfl, ((e1.trans e2).trans e3) l _ hl, ixN_nat hj, k v H3 ((e1.trans e2).trans e3) (hm v H1 H3 (e2.trans e3) hv)⟩
theorem s_dput {d : Addr} {kvs : List (Key × V)} {k : Key} (hv : Ev tv σ H v) (hd : Ev td σ H (.ref d)) (hk : Ev tk σ H (kV k)) (h : H d = some (.dK kvs)) (hl : kvs.length < 100000) (c : ∀ H1, Ex H H1 → D.nx σ (upd H1 d (.dK (putK kvs k v)))) : sDPut td tk tv D σ H :=
  hv H (Ex.refl H) _ fun H1 e1 => hd H1 e1 _ fun H2 e2 => hk H2 (e1.trans e2) _ fun H3 e3 => ⟨d, _, rfl, DPut.k (((e1.trans e2).trans e3) _ _ h) (sz_lt hl), c H3 ((e1.trans e2).trans e3)⟩
theorem rv_neDict {a b : Addr} {ks ls : List (Key × V)} (h1 : H a = some (.dK ks)) (h2 : H b = some (.dK ls)) (hl : ks.length = ls.length) (hp : ∀ p ∈ ks, valV ls p.1 = some p.2 ∧ (flatB p.2 = true ∨ ∃ a, p.2 = .ref a)) : RV (rDictSame false) (.ref a) (.ref b) H (.bl false) := fun H1 e _ q =>
  ⟨a, b, ks, ls, rfl, rfl, e _ _ h1, e _ _ h2, .inl ⟨hl, hp, q H1 (Ex.refl H1)⟩⟩
end

/-! ### enumerate(d), d a dict that stays as it is -/
section
variable {prog : Program} {w : World} {A : Around} {E : Value → Shared → Prop} {s : Shared}
set_option maxHeartbeats 2000000 in
theorem enum_meets {v : Value} {ob : Obj} {G : Heap → Prop} (B : PySem.Begins v ob G) : PySem.Meets (Builtin.«enumerate.__new__» ⟨[.type "enumerate", v], []⟩) (fun _ R s => G s.heap ∧
      R (.ok (.ret (.ref (s.heap.push ob).objs.size))) { s with heap := (s.heap.push ob).push { cls := .type "enumerate", data := .fields #[.none, .bool false, .ref s.heap.objs.size, rawInt 0, .none, .none] } }) :=
  .of_wp fun prog w A R s hh => by
    obtain ⟨hp, gg, dd, tt, oo⟩ := s
    obtain ⟨hg, hR⟩ := hh
    have hsub := sub_enumerate
    have begin_ : ∀ {A' : Around} {E' : Value → Shared → Prop} {Q' : Value → Shared → Prop}, Q' (.ref hp.objs.size) ⟨hp.push ob, gg, dd, tt, oo⟩ → wpAny (model prog w) A' (pyIter v) Q' E' ⟨hp, gg, dd, tt, oo⟩ := fun q => B.iter prog w _ _ ⟨hp, gg, dd, tt, oo⟩ _ hg q
    wp_walk using begin_
    refine wpAny_stack_any fun st => (wpAny_pure ?_)
    split
    · rename_i cc _ _ _ _ _
      cases (cc == Value.type "enumerate") <;> (wp_walk using begin_; exact ⟨_, rfl, hR⟩)
    · wp_walk using begin_
      exact ⟨_, rfl, hR⟩
theorem enum_call {v : Value} {ob : Obj} {G : Heap → Prop} {Q : Value → Shared → Prop} (B : PySem.Begins v ob G) (hg : G s.heap)
    (k : ∀ h', IsEnum h' (s.heap.objs.size + 1) s.heap.objs.size 0 .none → h'.get? s.heap.objs.size = some ob → (∀ b o, s.heap.get? b = some o → h'.get? b = some o) → Q (.ref (s.heap.objs.size + 1)) { s with heap := h' }) :
    wpAny (model prog w) A (call (.type "enumerate") [v]) Q E s := by
  refine callType_new F.called_enumerate (by decide) (F.typeCall_enumerate_1 _) (F.newCall_enumerate_1 _) (fun obj => F.args_object_init_2 obj _) F.entry_enumerate_new (enum_meets B) ⟨hg, ?_⟩
  have size1 : (s.heap.push ob).objs.size = s.heap.objs.size + 1 := (Heap.size_push ..)
  show _ ∧ _
  rw [size1]
  have isE : IsEnum ((s.heap.push ob).push { cls := .type "enumerate", data := .fields #[.none, .bool false, .ref s.heap.objs.size, rawInt 0, .none, .none] }) (s.heap.objs.size + 1) s.heap.objs.size 0 .none := by
    have z := Heap.get?_push_size (s.heap.push ob) (o := { cls := .type "enumerate", data := .fields #[.none, .bool false, .ref s.heap.objs.size, rawInt 0, .none, .none] }) rfl
    rw [size1] at z
    exact z
  exact ⟨⟨_, isE, rfl⟩, k _ isE (Heap.get?_push_of_some _ (Heap.get?_push_size _ B.free)) fun b o e => Heap.get?_push_of_some _ (Heap.get?_push_of_some _ e)⟩
theorem begins_keys {d : Addr} {od : Obj} {es : Array DictEntry} {ep : Nat} (lo : (d == sysModules) = false) (hx : od.ExactDict) (hdt : od.data = .dict es ep) :
    PySem.Begins (.ref d) { cls := .type "dict_keyiterator", data := .fields #[.ref d, .int 0 0, .int es.size 0, .int ep 0] } (fun h => h.get? d = some od) where
  iter := fun prog w A E s Q hg hq => iter_keys lo hg hx hdt hq
  keeps := fun h h' hg hk => hk d od hg
  free := rfl
/-- next of the keys' iterator, as a built-in asks it -/
theorem keys_next {it d : Addr} {i n ep : Nat} {od : Obj} {es : Array DictEntry} {en : DictEntry} {Q : Value → Shared → Prop} (hit : s.heap.IsKeyIter it d i n ep) (hg : s.heap.get? d = some od) (hdt : od.data = .dict es ep)
    (hsz : es.size = n) (hx : es[i]? = some en) (k : ∀ h', h'.IsKeyIter it d (i + 1) n ep → Heap.SameBut it s.heap h' → Q en.key { s with heap := h' }) : wpAny (model prog w) A (Builtin.SmallTypes.nextOf (.ref it)) Q E s := by
  obtain ⟨oi, goi, clsi, dati⟩ := id hit
  unfold Builtin.SmallTypes.nextOf
  refine wpAny_bind (wpAny_callSpecial?_slot (name := Str.ofString "__next__") hit.typeIs F.slot_dict_keyiterator_next (wpAny_call_entry F.slot_dict_keyiterator_next hit.typeIs F.entry_dict_keyiterator_next ?_ (F.args_dict_keyiterator_next_1 _)))
  refine wpAny_bind (wpAny_pure (wpAny_bind (wpAny_bind ?_)))
  first | refine wpAny_bind (wpAny_typeNameOfWhole_keyiter hit.typeIs (wpAny_pure (wpAny_bind (wpAny_fieldsOf goi dati ?_)))) | refine wpAny_bind (wpAny_typeNameOf_keyiter hit.typeIs (wpAny_pure (wpAny_bind (wpAny_fieldsOf goi dati ?_))))
  have notOwn : Builtin.Dict_items.ownsTuple "dict_keyiterator" = false := (by decide)
  simp only [notOwn, Bool.false_eq_true, ite_false, if_false]
  show wpAny _ _ (if (Value.ref d == Value.none) = true then _ else (_ : Sem _)) _ _ s
  rw [if_neg (show ¬ ((Value.ref d == Value.none) = true) from (Bool.false_ne_true))]
  refine wpAny_bind (wpAny_pure (wpAny_bind (wpAny_dictEntries hg hdt ?_)))
  rw [if_neg (by rw [hsz]; simp)]
  refine wpAny_bind (wpAny_pure (wpAny_bind (wpAny_dictEpoch hg hdt ?_)))
  rw [if_neg (by simp)]
  obtain ⟨lt', en'⟩ := Array.getElem?_eq_some_iff.mp hx
  refine wpAny_pure ?_
  simp only [show ¬ ((i : Int) < 0) from (by omega), if_false, Int.toNat_natCast, Array.getElem?_eq_getElem lt']
  refine wpAny_bind ?_
  first | refine wpAny_bind (wpAny_typeNameOfWhole_keyiter hit.typeIs (wpAny_pure (wpAny_bind (wpAny_isOneOf_keyiter hit.typeIs ?_)))) | refine wpAny_bind (wpAny_typeNameOf_keyiter hit.typeIs (wpAny_pure (wpAny_bind (wpAny_isOneOf_keyiter hit.typeIs ?_))))
  show wpAny _ _ (setField (.ref it) 1 (rawInt ((i : Int) + 1)) >>= (_ : _ → Sem _)) _ _ s
  refine wpAny_bind (wpAny_setField goi dati (by simp) ?_)
  have it' : (s.heap.update it (Obj.mapFields (·.setIfInBounds 1 (rawInt ((i : Int) + 1))))).IsKeyIter it d (i + 1) n ep := ⟨_, Heap.get?_update_self _ goi (Obj.isFreed_of_fields (Obj.data_mapFields dati _)), (Obj.cls_mapFields ..).trans clsi, (by rw [Obj.data_mapFields dati]; simp [rawInt])⟩
  refine wpAny_bind (wpAny_holding (wpAny_bind (wpAny_isOneOf_keyiter (s := { s with heap := s.heap.update it (Obj.mapFields (·.setIfInBounds 1 (rawInt ((i : Int) + 1)))) }) it'.typeIs ?_)))
  show wpAny _ _ (pure es[i].key) _ _ _
  rw [en']
  exact wpAny_pure (wpAny_pure ⟨_, rfl, wpAny_pure (k _ it' (Heap.SameBut.update ..))⟩)
theorem keys_done {it d : Addr} {i n ep : Nat} {od : Obj} {es : Array DictEntry} {Q : Value → Shared → Prop} (hh : A.handled = none) (hit : s.heap.IsKeyIter it d i n ep) (hg : s.heap.get? d = some od) (hdt : od.data = .dict es ep)
    (hsz : es.size = n) (hge : n ≤ i) (k : ∀ h' e, Heap.ExtBut it s.heap h' → (∃ o, h'.get? e = some o ∧ o.cls = .type "StopIteration") → E (.ref e) { s with heap := h' }) : wpAny (model prog w) A (Builtin.SmallTypes.nextOf (.ref it)) Q E s := by
  obtain ⟨oi, goi, clsi, dati⟩ := id hit
  unfold Builtin.SmallTypes.nextOf
  refine wpAny_bind (wpAny_callSpecial?_slot (name := Str.ofString "__next__") hit.typeIs F.slot_dict_keyiterator_next (wpAny_call_entry F.slot_dict_keyiterator_next hit.typeIs F.entry_dict_keyiterator_next ?_ (F.args_dict_keyiterator_next_1 _)))
  refine wpAny_bind (wpAny_pure (wpAny_bind (wpAny_bind ?_)))
  first | refine wpAny_bind (wpAny_typeNameOfWhole_keyiter hit.typeIs (wpAny_pure (wpAny_bind (wpAny_fieldsOf goi dati ?_)))) | refine wpAny_bind (wpAny_typeNameOf_keyiter hit.typeIs (wpAny_pure (wpAny_bind (wpAny_fieldsOf goi dati ?_))))
  have notOwn : Builtin.Dict_items.ownsTuple "dict_keyiterator" = false := (by decide)
  simp only [notOwn, Bool.false_eq_true, ite_false, if_false]
  show wpAny _ _ (if (Value.ref d == Value.none) = true then _ else (_ : Sem _)) _ _ s
  rw [if_neg (show ¬ ((Value.ref d == Value.none) = true) from (Bool.false_ne_true))]
  refine wpAny_bind (wpAny_pure (wpAny_bind (wpAny_dictEntries hg hdt ?_)))
  rw [if_neg (by rw [hsz]; simp)]
  refine wpAny_bind (wpAny_pure (wpAny_bind (wpAny_dictEpoch hg hdt ?_)))
  rw [if_neg (by simp)]
  have ge' : es.size ≤ i := (by rw [hsz]; exact hge)
  refine wpAny_pure ?_
  simp only [show ¬ ((i : Int) < 0) from (by omega), if_false, Int.toNat_natCast, Array.getElem?_eq_none ge']
  refine wpAny_bind ?_
  first | refine wpAny_bind (wpAny_typeNameOfWhole_keyiter hit.typeIs (wpAny_pure (?_ : wpAny _ _ (setField (.ref it) 0 .none >>= _) _ _ s))) | refine wpAny_bind (wpAny_typeNameOf_keyiter hit.typeIs (wpAny_pure (?_ : wpAny _ _ (setField (.ref it) 0 .none >>= _) _ _ s)))
  refine wpAny_bind (wpAny_setField goi dati (by simp) (?_ : wpAny _ _ (newExc (.type "StopIteration") [] >>= _) _ _ _))
  refine wpAny_bind ?_
  simp only [newExc, newTuple]
  refine wpAny_bind (wpAny_newObj_type (wpAny_bind (m := firstArgMember _ _) (wpAny_of_eq (a := Value.none) (by first | rfl | (simp only [firstArgMember]; rfl)) (wpAny_newObj_type ?_ (by size_fits)))) (by size_fits))
  simp only [raiseNew]
  refine wpAny_bind (wpAny_handled ?_)
  first | rw [show A.in1.handled = none from hh] | rw [hh]
  exact wpAny_bind (wpAny_pure (wpAny_throw (k _ _ (((Heap.SameBut.update ..).extBut.push _).push _) ⟨_, Heap.get?_push_size _ rfl, rfl⟩)))
theorem draws_keys {P : Program} {w : World} {A : Around} (hh : A.handled = none) {it d : Addr} {od : Obj} {es : Array DictEntry} {ep n : Nat} (hne : d ≠ it) (hdt : od.data = .dict es ep) (hsz : es.size = n) :
    PySem.Draws P w A it [it, d] n (fun i v => ∃ en, es[i]? = some en ∧ v = en.key) (fun i h => h.IsKeyIter it d i n ep ∧ h.get? d = some od) where
  live := fun _ _ st => let ⟨o, ho, _⟩ := st.1; ⟨o, ho⟩
  frame := fun _ _ _ st hk => ⟨st.1.at fun o e => hk it (by simp) o e, hk d (by simp) od st.2⟩
  item := fun i s Q E hi st hQ => keys_next st.1 st.2 hdt hsz (Array.getElem?_eq_getElem (by omega)) fun h' hit' sb => hQ _ h' s.toks ⟨_, Array.getElem?_eq_getElem (by omega), rfl⟩ ⟨hit', (sb.2 d hne).trans st.2⟩ sb
  done := fun s Q E st hE => keys_done hh st.1 st.2 hdt hsz (Nat.le_refl _) hE
end
/-- the turns of enumerate over a locked dict: a new pair of the turn and the key -/
def ItED (d : Addr) (o : Obj) (kvs : List (Key × V)) : It :=
  ⟨fun i H => H d = some (.frz o (.dK kvs)) ∧ i < kvs.length, fun i H v H' => ∃ T k u, v = .ref T ∧ H T = none ∧ H' = upd H T (.tup [.int (i : Nat), kV k]) ∧ kvs[i]? = some (k, u), fun i H => H d = some (.frz o (.dK kvs)) ∧ kvs.length ≤ i⟩
theorem walk_enumD {d : Addr} {o : Obj} {kvs : List (Key × V)} : Walk (ItED d o kvs) kvs.length (fun H => H d = some (.frz o (.dK kvs))) (fun i H v H' => ∃ T k u, v = .ref T ∧ H T = none ∧ H' = upd H T (.tup [.int (i : Nat), kV k]) ∧ kvs[i]? = some (k, u)) :=
  ⟨fun _ _ hi q => ⟨q, hi⟩, fun _ q => ⟨q, Nat.le_refl _⟩, fun _ _ _ _ _ _ y => y⟩
theorem turn_enumD {P : Program} {w : World} {K : PySem.W.Frag} {elts : List Expr} {kk : Nat} {tpos : Pos} {d e it : Addr} {o : Obj} {es : Array DictEntry} {ep : Nat} {kvs : List (Key × V)} (hod : o.data = .dict es ep) (hei : e ≠ it) (hdi : d ≠ it) (hed : e ≠ d) :
    Turn P w K (.Tuple elts kk tpos) (ItED d o kvs) [e, it] e (fun i h => (∃ old, IsEnum h e it ((i : Nat) : Int) old) ∧ h.IsKeyIter it d i kvs.length ep) where
  mem := List.mem_cons_self
  obj := fun i h st b hb => by
    obtain ⟨⟨old, he⟩, ⟨oi, hoi, _, hdi⟩⟩ := st
    rcases List.mem_cons.mp hb with z | z
    · rw [z]
      exact ⟨_, he, fun v q => nomatch q⟩
    · rw [List.mem_singleton.mp z]
      exact ⟨oi, hoi, fun v q => by rw [hdi] at q; cases q⟩
  keep := fun i h h' st k => by
    obtain ⟨⟨old, he⟩, hi⟩ := st
    exact ⟨⟨old, k e List.mem_cons_self _ he⟩, hi.at fun oi q => k it (List.mem_cons_of_mem _ List.mem_cons_self) oi q⟩
  item := by
    intro X hP hw hK hc i pins s σ H E I hf st hg
    subst hP hw hK
    obtain ⟨⟨old, he⟩, hit⟩ := st
    obtain ⟨hd, hi⟩ := hg
    obtain ⟨_, hgd, hx, es', ep', vs, hdt, hsz, kv, o', es2, hgd2, _, hdt2, hkeys, hpairs, _⟩ := I.frzK hd
    obtain ⟨rfl, rfl⟩ := dict_ep hod hdt
    obtain rfl : o' = o := Option.some.inj (hgd2.symm.trans hgd)
    obtain ⟨rfl, _⟩ := dict_ep hdt hdt2
    obtain ⟨k, v, hkv⟩ : ∃ k v, kvs[i]? = some (k, v) := ⟨kvs[i].1, kvs[i].2, List.getElem?_eq_getElem hi⟩
    obtain ⟨u, hu, ru⟩ := kv_get kv hkv
    have hel : e < s.heap.objs.size := Heap.lt_size he
    have hil : it < s.heap.objs.size := by obtain ⟨_, q, _⟩ := id hit; exact Heap.lt_size q
    have D := draws_keys (P := X.prog) (w := X.w) (A := X.A.in1) (I.ok.hd hc) (n := kvs.length) hdi hod hsz
    have hef : e ∉ [it, d] := fun h => by
      rcases List.mem_cons.mp h with z | z
      · exact hei z
      · exact hed (List.mem_singleton.mp z)
    refine wpAny_pyNext_enum_itemC D he ⟨hit, hgd⟩ hi hei hef fun x h' tk hPx ho st' hT hsz' hk => ?_
    obtain ⟨en, hen, rfl⟩ := hPx
    have hkey : keyIs k en.key = true := (hpairs.get? (e := en) (by rw [Array.getElem?_toList]; exact hen) hu).1
    refine ⟨_, rfl, wpAny_letOwnedTupleGo_enum (s := { s with heap := h', toks := tk + 1 }) ho fun h2 he2 sb => ?_⟩
    have hT2 : h2.get? s.heap.objs.size = some { cls := .type "tuple", data := .seq #[.int i tk, en.key] } := ((sb.2 _ (Nat.ne_of_gt hel)).trans hT)
    have new : ObjOk X.prog X.w (upd H s.heap.objs.size (.tup [.int (i : Nat), kV k])) h2 s.heap.objs.size (.tup [.int (i : Nat), kV k]) := ⟨by show (2 : Nat) ≤ sizeLine; decide, [.int i tk, en.key], .cons ⟨_, rfl⟩ (.cons (relV_key hkey) .nil), ⟨_, hT2, rfl, _, rfl⟩⟩
    have I1 : Inv X pins σ (upd H s.heap.objs.size (.tup [.int (i : Nat), kV k])) { s with heap := h2, toks := tk + 1 } :=
      I.turnedNew (ch := [e, it]) (fun b ob hb q => (sb.2 b (fun z => hb (by rw [z]; exact List.mem_cons_self))).trans (hk b ob (fun z => hb (by rw [z]; exact List.mem_cons_self)) (fun z => hb (by rw [z]; exact List.mem_cons_of_mem _ List.mem_cons_self)) q)) hf (Nat.le_refl _) new
    refine ⟨.ref s.heap.objs.size, _, I1, rfl, ⟨_, k, v, rfl, I.hok.fresh (Nat.le_refl _), rfl, hkv⟩, ⟨⟨en.key, ?_⟩, st'.1.at fun oi q => (sb.2 it (Ne.symm hei)).trans q⟩, fun b hb => ?_⟩
    · rw [show ((i + 1 : Nat) : Int) = (i : Int) + 1 from by omega]
      exact he2
    · have hb' : b < s.heap.objs.size := by
        rcases List.mem_cons.mp hb with z | z
        · rw [z]; exact hel
        · rw [List.mem_singleton.mp z]; exact hil
      rw [upd_ne (Nat.ne_of_lt hb')]
      exact (hf b hb).1
  done := by
    intro X hP hw hK hc i pins s σ H E I hf st hg
    subst hP hw hK
    obtain ⟨⟨old, he⟩, hit⟩ := st
    obtain ⟨hd, hge⟩ := hg
    obtain ⟨_, hgd, hx, es', ep', vs, hdt, hsz', kv, _⟩ := I.frzK hd
    have hsz : es.size = kvs.length := by rw [← (dict_ep hod hdt).1]; exact hsz'
    obtain ⟨f0, f1, f2, f3, f4, f5⟩ := hf it (List.mem_cons_of_mem _ List.mem_cons_self)
    have D0 : PySem.Draws X.prog X.w X.A.in1 it [it, d] i (fun _ _ => False) (fun j h => j = i ∧ h.IsKeyIter it d i kvs.length ep ∧ h.get? d = some o) :=
      { live := fun _ _ st => let ⟨q, hq, _⟩ := st.2.1; ⟨q, hq⟩
        frame := fun _ _ _ st hk => ⟨st.1, st.2.1.at fun q e => hk it (by simp) q e, hk d (by simp) o st.2.2⟩
        item := fun j s Q E hj st _ => absurd st.1 (Nat.ne_of_lt hj)
        done := fun s Q E st hE => keys_done (I.ok.hd hc) st.2.1 st.2.2 hod hsz hge hE }
    exact wpAny_pyNext_enum_endD D0 he ⟨rfl, hit, hgd⟩ fun h' eb => ⟨rfl, I.turned (t' := s.toks) (fun b ob hb q => eb b ob hb q) f0 f1 f3 f4 f5⟩
  self := fun A i s Q E st h => let ⟨⟨_, he⟩, _⟩ := st; wpAny_pyIter_enum he h
/-- enumerate(d): the dict is locked -/
def iEnumD (ta : TA) : TI := fun σ H R => ta σ H fun vs H1 => ∃ d o kvs, vs = [.ref d] ∧ H1 d = some (.frz o (.dK kvs)) ∧ R (ItED d o kvs) H1
theorem pi_enumD {X : Cx} {e : Expr} {ta : TA} {p pos tpos : Pos} {elts : List Expr} {kk : Nat} (hg : Gl X "enumerate") (hm : X.mg "enumerate" = none) (ha : PA X [e] ta) (hs : starEach [e] X.env = [(false, eval e X.env)] := by rfl) :
    PI X (.Tuple elts kk tpos) (.Call (.Name "enumerate" p) [e] [] pos) (iEnumD ta) := by
  refine ⟨fun pins s σ H R I h => ?_⟩
  refine PyProof.Rows.Call_ (ld_blt I hg hm PyProof.Rows.boot_enumerate (PyProof.Rows.callWith_type1 (thn (ha.run pos pins s σ H _ I h) fun us s1 ⟨vs, H1, I1, r1, q1⟩ => ?_) hs rfl))
  obtain ⟨d, o, kvs, ex, hd, q⟩ := q1
  subst ex
  obtain ⟨u, rfl, ru⟩ := vals1 r1
  cases (show u = Value.ref d from ru)
  obtain ⟨lo, hgd, hx, es, ep, vs', hdt, hsz, kv, _⟩ := I1.frzK hd
  have hdl : d < s1.heap.objs.size := Heap.lt_size hgd
  refine enum_call (begins_keys lo hx hdt) hgd fun h' he hit hk => wpAny_pyIter_enum he ?_
  have I2 : Inv X pins σ H1 { s1 with heap := h' } := I1.kept (t' := s1.toks) hk
  refine ⟨s1.heap.objs.size + 1, [s1.heap.objs.size + 1, s1.heap.objs.size], _, _, H1, rfl, I2, turn_enumD hdt (Nat.succ_ne_self _) (Nat.ne_of_lt hdl) (Ne.symm (Nat.ne_of_lt (Nat.lt_succ_of_lt hdl))), ⟨⟨.none, he⟩, ⟨_, hit, rfl, by rw [hsz] <;> rfl⟩⟩, fun b hb => ?_, q⟩
  have hle : s1.heap.objs.size ≤ b := by
    rcases List.mem_cons.mp hb with z | z
    · rw [z]; exact Nat.le_add_right _ _
    · rw [List.mem_singleton.mp z]; exact Nat.le_refl _
  exact I1.fpOk hle (I1.hok.fresh hle)

/-! ### pages: names with shares -/
abbrev Nm := List Nat
abbrev Pg := List (Nm × Int × Int)
def EntV (K : PySem.W.Frag) (H : Hp) (kv : Key × V) (e : Nm × Int × Int) : Prop := kv.1 = .inr (ofL e.1) ∧ ∃ q, kv.2 = .ref q ∧ SqT K H q [.int e.2.1, .int e.2.2]
def PgV (K : PySem.W.Frag) (H : Hp) : List (Key × V) → Pg → Prop := Paired (EntV K H)
def getP (p : Pg) (n : Nm) : Option (Int × Int) := (p.find? fun e => decide (e.1 = n)).map (·.2)
def putP (p : Pg) (n : Nm) (s : Int × Int) : Pg := if (p.any fun e => decide (e.1 = n)) = true then p.map (fun e => if e.1 = n then (e.1, s) else e) else p ++ [(n, s)]
def NmOk (n : Nm) : Prop := 1 ≤ n.length ∧ n.length ≤ 8 ∧ ∀ x ∈ n, x < 1114112
theorem ofL_inj {a b : List Nat} (h : ofL a = ofL b) : a = b := by
  have := congrArg (fun z : Str => z.cps.toList) h
  exact this
theorem key_dec (a b : Nm) : decide ((Sum.inr (ofL a) : Key) = .inr (ofL b)) = decide (a = b) := decide_eq_decide.mpr ⟨fun h => ofL_inj (Sum.inr.inj h), fun h => by rw [h]⟩
section
variable {K : PySem.W.Frag} {H H' : Hp} {kvs : List (Key × V)} {p : Pg}
theorem EntV.mono {kv : Key × V} {e : Nm × Int × Int} (x : Ex H H') (h : EntV K H kv e) : EntV K H' kv e := ⟨h.1, let ⟨q, a, b⟩ := h.2; ⟨q, a, ex_t x b⟩⟩
theorem PgV.to (f : ∀ q xs, SqT K H q xs → SqT K H' q xs) (h : PgV K H kvs p) : PgV K H' kvs p := Paired.mapP h fun _ _ h => ⟨h.1, let ⟨q, a, b⟩ := h.2; ⟨q, a, f _ _ b⟩⟩
theorem PgV.mono (x : Ex H H') (h : PgV K H kvs p) : PgV K H' kvs p := h.to fun _ _ => ex_t x
theorem PgV.len (h : PgV K H kvs p) : kvs.length = p.length := Paired.length h
theorem PgV.any (n : Nm) (h : PgV K H kvs p) : (kvs.any fun kv => decide (kv.1 = .inr (ofL n))) = p.any fun e => decide (e.1 = n) := by
  unfold PgV at h
  induction h with
  | nil => rfl
  | cons h t ih => rw [List.any_cons, List.any_cons, ih, h.1, key_dec]
theorem PgV.get (n : Nm) (h : PgV K H kvs p) : (∃ q s, valV kvs (.inr (ofL n)) = some (.ref q) ∧ getP p n = some s ∧ SqT K H q [.int s.1, .int s.2]) ∨ (valV kvs (.inr (ofL n)) = none ∧ getP p n = none) := by
  unfold PgV at h
  induction h with
  | nil => exact .inr ⟨rfl, rfl⟩
  | @cons kv e kvs p h t ih =>
    obtain ⟨h1, q, h2, h3⟩ := h
    unfold valV getP
    rw [List.find?_cons, List.find?_cons, h1, key_dec]
    by_cases c : e.1 = n
    · rw [decide_eq_true c]
      exact .inl ⟨q, e.2, by show some kv.2 = _; rw [h2], rfl, h3⟩
    · rw [decide_eq_false c]
      exact ih
theorem PgV.snoc {n : Nm} {q : Addr} {s : Int × Int} (h : PgV K H kvs p) (hq : SqT K H q [.int s.1, .int s.2]) : PgV K H (kvs ++ [(.inr (ofL n), .ref q)]) (p ++ [(n, s)]) := by
  unfold PgV at h
  induction h with
  | nil => exact .cons ⟨rfl, q, rfl, hq⟩ .nil
  | cons h t ih => exact .cons h ih
theorem PgV.put {n : Nm} {q : Addr} {s : Int × Int} (h : PgV K H kvs p) (hq : SqT K H q [.int s.1, .int s.2]) : PgV K H (putK kvs (.inr (ofL n)) (.ref q)) (putP p n s) := by
  unfold putK putP
  rw [h.any n]
  split
  · unfold PgV at h
    induction h with
    | nil => exact .nil
    | @cons kv e kvs p h t ih =>
      rename_i c
      rw [List.map_cons, List.map_cons]
      refine .cons ?_ ?_
      · by_cases c : e.1 = n
        · rw [if_pos (by rw [h.1, c]), if_pos c]
          exact ⟨h.1, q, rfl, hq⟩
        · rw [if_neg (fun z => c (ofL_inj (Sum.inr.inj (h.1.symm.trans z)))), if_neg c]
          exact h
      · clear ih c h
        induction t with
        | nil => exact .nil
        | @cons kv e kvs p h t ih =>
          rw [List.map_cons, List.map_cons]
          refine .cons ?_ ih
          by_cases c : e.1 = n
          · rw [if_pos (by rw [h.1, c]), if_pos c]
            exact ⟨h.1, q, rfl, hq⟩
          · rw [if_neg (fun z => c (ofL_inj (Sum.inr.inj (h.1.symm.trans z)))), if_neg c]
            exact h
  · exact h.snoc hq
theorem PgV.keys (h : PgV K H kvs p) : kvs.map (·.1) = (p.map fun e => ofL e.1).map Sum.inr := by
  unfold PgV at h
  induction h with
  | nil => rfl
  | cons h t ih => rw [List.map_cons, List.map_cons, List.map_cons, ih, h.1]
theorem PgV.at {i : Nat} {kv : Key × V} (h : PgV K H kvs p) (hi : kvs[i]? = some kv) : ∃ e, p[i]? = some e ∧ EntV K H kv e := by
  unfold PgV at h
  induction h generalizing i with
  | nil => simp at hi
  | cons h t ih =>
    cases i with
    | zero =>
      obtain rfl := Option.some.inj hi
      exact ⟨_, rfl, h⟩
    | succ i => exact ih (by simpa using hi)
end
theorem putP_names (p : Pg) (n : Nm) (s : Int × Int) : (putP p n s).map (·.1) = if n ∈ p.map (·.1) then p.map (·.1) else p.map (·.1) ++ [n] := by
  unfold putP
  have e : (p.any fun e => decide (e.1 = n)) = decide (n ∈ p.map (·.1)) := by
    rw [Bool.eq_iff_iff, List.any_eq_true, decide_eq_true_iff, List.mem_map]
    constructor
    · rintro ⟨x, h1, h2⟩
      exact ⟨x, h1, of_decide_eq_true h2⟩
    · rintro ⟨x, h1, h2⟩
      exact ⟨x, h1, decide_eq_true h2⟩
  rw [e]
  by_cases h : n ∈ p.map (·.1)
  · rw [if_pos (decide_eq_true h), if_pos h, List.map_map]
    congr 1
    funext x
    show (if x.1 = n then (x.1, s) else x).1 = x.1
    split <;> rfl
  · rw [if_neg (by simpa using h), if_neg h, List.map_append]
    rfl
theorem putP_nd {p : Pg} {n : Nm} {s : Int × Int} (h : (p.map (·.1)).Nodup) : ((putP p n s).map (·.1)).Nodup := by
  rw [putP_names]
  split
  · exact h
  · rename_i c
    exact nd_snoc h c
theorem putP_len {p : Pg} {n : Nm} {s : Int × Int} : (putP p n s).length ≤ p.length + 1 := by
  have := congrArg List.length (putP_names p n s)
  rw [List.length_map] at this
  rw [this]
  split
  · rw [List.length_map]; omega
  · rw [List.length_append, List.length_map]; simp
theorem putP_ok {p : Pg} {n : Nm} {s : Int × Int} (h : ∀ e ∈ p, NmOk e.1) (hn : NmOk n) : ∀ e ∈ putP p n s, NmOk e.1 := by
  intro e he
  have : e.1 ∈ (putP p n s).map (·.1) := List.mem_map.mpr ⟨e, he, rfl⟩
  rw [putP_names] at this
  have hp : ∀ m ∈ p.map (·.1), NmOk m := fun m hm => by
    obtain ⟨x, h1, rfl⟩ := List.mem_map.mp hm
    exact h x h1
  split at this
  · exact hp _ this
  · rcases List.mem_append.mp this with h2 | h2
    · exact hp _ h2
    · rw [List.mem_singleton.mp h2]; exact hn
theorem getP_mem {p : Pg} (h : (p.map (·.1)).Nodup) : ∀ e ∈ p, getP p e.1 = some e.2 := by
  induction p with
  | nil => intro e he; cases he
  | cons a r ih =>
    intro e he
    rw [List.map_cons, List.nodup_cons] at h
    unfold getP
    rw [List.find?_cons]
    rcases List.mem_cons.mp he with rfl | he
    · rw [decide_eq_true rfl]
      rfl
    · rw [decide_eq_false (fun z => h.1 (by rw [z]; exact List.mem_map.mpr ⟨e, he, rfl⟩))]
      exact ih h.2 e he
/-- a page stands at d; it may be locked -/
def PgRd (K : PySem.W.Frag) (H : Hp) (d : Addr) (p : Pg) : Prop := ∃ kvs, Rd H d (.dK kvs) ∧ PgV K H kvs p ∧ (p.map (·.1)).Nodup ∧ (∀ e ∈ p, NmOk e.1) ∧ p.length ≤ 1000
def PgAt (K : PySem.W.Frag) (H : Hp) (d : Addr) (p : Pg) : Prop := ∃ kvs, H d = some (.dK kvs) ∧ PgV K H kvs p ∧ (p.map (·.1)).Nodup ∧ (∀ e ∈ p, NmOk e.1) ∧ p.length ≤ 1000
section
variable {K : PySem.W.Frag} {H H' : Hp} {d : Addr} {p : Pg}
theorem PgAt.rd (h : PgAt K H d p) : PgRd K H d p := let ⟨kvs, a, b⟩ := h; ⟨kvs, .inl a, b⟩
theorem PgRd.mono (x : Ex H H') (h : PgRd K H d p) : PgRd K H' d p := let ⟨kvs, a, b, c⟩ := h; ⟨kvs, ex_rd x a, b.mono x, c⟩
theorem PgAt.mono (x : Ex H H') (h : PgAt K H d p) : PgAt K H' d p := let ⟨kvs, a, b, c⟩ := h; ⟨kvs, x _ _ a, b.mono x, c⟩
end
section
variable {K : PySem.W.Frag} {H H' : Hp} {d : Addr}
theorem upd_t {q : Addr} {xs : List V} {kvs : List (Key × V)} {o : HO} (hd : H d = some (.dK kvs)) (h : SqT K H q xs) : SqT K (upd H d o) q xs := by
  rcases h with (h | ⟨o, h⟩) | h
  · exact .inl (.inl (by rw [upd_ne (ne_of h hd (by intro z; cases z))]; exact h))
  · exact .inl (.inr ⟨o, by rw [upd_ne (ne_of h hd (by intro z; cases z))]; exact h⟩)
  · exact .inr h
end

/-! ### sets of texts and numbers, by their members -/
section
open L2
def STo (P : Program) (w : World) (a : Addr) (S : Key → Bool) (n : Nat) : HO := .ext fun h => TSet (mixKind P w) h a S n
theorem sto_new {P : Program} {w : World} {H : Hp} {h : Heap} {a : Addr} {S : Key → Bool} {n : Nat} (R : TSet (mixKind P w) h a S n) : ObjOk P w H h a (STo P w a S n) :=
  ⟨R, let ⟨o, _, _, _, e, _⟩ := R; ⟨o, e⟩, fun _ _ p k => p.at k⟩
variable {X : Cx}
theorem sto_get {pins : List (Addr × Obj)} {σ : L2.St} {H : Hp} {s : Shared} {a : Addr} {S : Key → Bool} {n : Nat} (I : Inv X pins σ H s) (e : H a = some (STo X.prog X.w a S n)) : TSet (mixKind X.prog X.w) s.heap a S n := (I.hok a _ e).1
theorem pairs_any {prog : Program} {w : World} {κ : Type} [DecidableEq κ] {knd : KeyKind prog w κ} (j : κ) {es : List DictEntry} {vs : List (κ × Value)} (h : Pairs knd es vs) : (es.any fun e => knd.is j e.key) = vs.any fun kv => decide (kv.1 = j) := by
  induction h with
  | nil => rfl
  | cons h1 _ _ ih =>
    rw [List.any_cons, List.any_cons, ih, KeyKind.is_eq_decide h1 j]
    congr 1
    exact decide_eq_decide.mpr eq_comm
theorem pairs_len {prog : Program} {w : World} {κ : Type} [DecidableEq κ] {knd : KeyKind prog w κ} {es : List DictEntry} {vs : List (κ × Value)} (h : Pairs knd es vs) : es.length = vs.length := by
  induction h with
  | nil => rfl
  | cons _ _ _ ih => rw [List.length_cons, List.length_cons, ih]
theorem keys_any {α β : Type} {κ : Type} [DecidableEq κ] (j : κ) (f : α → κ) (g : β → κ) : ∀ {l : List α} {m : List β}, l.map f = m.map g → (l.any fun x => decide (f x = j)) = m.any fun y => decide (g y = j)
  | [], [], _ => rfl
  | [], _ :: _, h => by cases h
  | _ :: _, [], h => by cases h
  | x :: l, y :: m, h => by
    rw [List.map_cons, List.map_cons, List.cons.injEq] at h
    rw [List.any_cons, List.any_cons, h.1, keys_any j f g h.2]
def rSetDict (P : Program) (w : World) : List V → Hp → VK → Prop := fun xs H Q => ∃ (a : Addr) (kvs : List (Key × V)), xs = [.ref a] ∧ Rd H a (.dK kvs) ∧ kvs.length ≤ 1000 ∧
  ∀ p m, m ≤ kvs.length → H p = none → Q (.ref p) (upd H p (STo P w p (fun k => kvs.any fun kv => decide (kv.1 = k)) m))
theorem gc_set_dict (_ : X.calm = true) : CallR X (.type "set") (rSetDict X.prog X.w) := by
  intro pins s σ H xs us Q I r ⟨a, kvs, ex, hd, hl, q⟩
  subst ex
  obtain ⟨u, rfl, rx⟩ := vals1 r
  cases (show u = Value.ref a from rx)
  obtain ⟨_, lo, vs, rel, o, es, ep, ho, hex, hdd, hko, hpr, _⟩ := dk_rd I.hok hd
  have hk := rel.keys
  have hlen : es.size = kvs.length := by
    have h1 := pairs_len hpr
    have h2 := congrArg List.length hk
    rw [List.length_map, List.length_map] at h2
    rw [← Array.length_toList, h1, h2]
  refine call_set_dict (knd := mixKind X.prog X.w) lo ho hex.1 hdd (fun e he => ?_) (by omega) fun h' m keep hm T => ?_
  · obtain ⟨k, h1, h2⟩ := hko e (by simpa using he)
    refine ⟨k, h1, h2, ?_⟩
    rcases keyIs_shape h1 with ⟨i, t, _, e1⟩ | ⟨x, t, _, e1⟩ <;> rw [e1] <;> rfl
  · refine ⟨.ref s.heap.objs.size, _, I.laid (t' := s.toks) keep (Nat.le_refl _) (sto_new (T.cast (S' := fun k => kvs.any fun kv => decide (kv.1 = k)) fun j => ?_)), rfl, q _ m (by omega) (I.hok.fresh (Nat.le_refl _))⟩
    show (kvs.any fun kv => decide (kv.1 = j)) = _
    rw [pairs_any j hpr]
    exact keys_any j (fun kv : Key × V => kv.1) Prod.fst hk
def rOrSet (P : Program) (w : World) : R2 := fun x y H Q => ∃ (a b : Addr) (S S' : Key → Bool) (n n' : Nat), x = .ref a ∧ y = .ref b ∧ H a = some (STo P w a S n) ∧ H b = some (STo P w b S' n') ∧ b ≠ a ∧ n + n' ≤ 1000 ∧
  ∀ p m, m ≤ n + n' → H p = none → Q (.ref p) (upd H p (STo P w p (fun k => S k || S' k) m))
theorem gc_or_set : OpR X (binaryOp .BitOr) (rOrSet X.prog X.w) := by
  intro pins s σ H x y v u Q I rx ry ⟨a, b, S, S', n, n', ex, ey, ha, hb, hne, hl, q⟩
  subst ex ey
  cases (show v = Value.ref a from rx)
  cases (show u = Value.ref b from ry)
  refine or_sets (sto_get I ha) (sto_get I hb) hne (by omega) fun h' m keep hm T => ?_
  exact ⟨.ref s.heap.objs.size, _, I.laid (t' := s.toks) keep (Nat.le_refl _) (sto_new T), rfl, q _ m hm (I.hok.fresh (Nat.le_refl _))⟩
def rSortSet (P : Program) (w : World) : List V → Hp → VK → Prop := fun xs H Q => ∃ (a : Addr) (S : Key → Bool) (n : Nat), xs = [.ref a] ∧ H a = some (STo P w a S n) ∧ (∀ k, S k = true → ∃ z, k = .inr z) ∧ n ≤ 2000 ∧
  ∀ (ys : List Str) (p : Addr), (∀ z, z ∈ ys ↔ S (.inr z) = true) → ys.length = n → ys.Pairwise (fun x y => ¬ y.cps.toList < x.cps.toList) → H p = none → Q (.ref p) (upd H p (.lst (ys.map V.str)))
theorem gc_sortedSet (hcalm : X.calm = true) : CallR X (.builtin "sorted") (rSortSet X.prog X.w) := by
  intro pins s σ H xs us Q I r ⟨a, S, n, ex, ha, hS, hn, q⟩
  subst ex
  obtain ⟨u, rfl, rx⟩ := vals1 r
  cases (show u = Value.ref a from rx)
  obtain ⟨o, es, ep, t, ho, hex, hd, hel, hmem, hbd, hf, hsz, hr, hl⟩ := sto_get I ha
  refine Calls.call_function_entry PyProof.Rows.kind_sorted PyProof.Rows.plain_sorted PyProof.Rows.entry_sorted (PyProof.Rows.args_sorted1 _) (?_ : wpAny _ _ (Builtin.«sorted» _) _ _ _)
  unfold Builtin.«sorted»
  refine wpAny_bind (m := checkCount "sorted" 1 1 _) (wpAny_pure (wpAny_bind (collect_set (A := X.A.in1) (I.ok.hd hcalm) ⟨o, ho, hex.1, hd⟩ hf hbd hr hl fun s1 out k1 z1 g1 o1 pm => ?_)))
  have hol : out.length = n := by rw [pm.length_eq, List.length_map, Array.length_toList]; exact hsz
  have hall : ∀ v ∈ out, ∃ x t, v = Value.str x t := fun v hv => by
    obtain ⟨e, he, rfl⟩ := List.mem_map.mp (pm.mem_iff.mp hv)
    obtain ⟨⟨k, h1, _⟩, _⟩ := hel e he
    obtain ⟨z, rfl⟩ := hS k ((hmem k).mpr ⟨e, he, h1⟩)
    rcases keyIs_shape (k := .inr z) (v := e.2) h1 with ⟨i, t, e1, _⟩ | ⟨x, t, _, e2⟩
    · cases e1
    · exact ⟨x, t, e2⟩
  have hT := strs_of hall
  have hm0 : ∀ z : Str, z ∈ (out.map fun v => ofL (signsV v)) ↔ S (.inr z) = true := fun z => by
    rw [hmem, List.mem_map]
    constructor
    · rintro ⟨v, hv, rfl⟩
      obtain ⟨e, he, rfl⟩ := List.mem_map.mp (pm.mem_iff.mp hv)
      refine ⟨e, he, ?_⟩
      obtain ⟨x, t, e1⟩ := hall _ hv
      rw [e1]
      show Value.isStrOf (ofL x.cps.toList) (.str x t) = true
      rw [ofL_eta]
      exact beq_self_eq_true x
    · rintro ⟨e, he, h1⟩
      refine ⟨e.2, pm.mem_iff.mpr (List.mem_map.mpr ⟨e, he, rfl⟩), ?_⟩
      obtain ⟨t, e1⟩ := Value.isStrOf_shape (x := z) (v := e.2) h1
      rw [e1]
      exact ofL_eta z
  have I0 : Inv X pins σ H s1 := I.call' (ch := []) o1 (Un.kept k1) (I.hok.kept k1) (by rw [g1]; exact I.bare) (fun _ z => nomatch z)
  have hz : out.length ≤ sizeLine := by rw [hol]; exact sz_of (by omega)
  refine wpAny_bind (wpAny_newList (?_ : wpAny _ _ _ _ _ { s1 with heap := s1.heap.push (PyProof.Rows.seqObj "list" out.toArray 0) }) hz)
  have hoL : (s1.heap.push (PyProof.Rows.seqObj "list" out.toArray 0)).get? s1.heap.objs.size = some (PyProof.Rows.seqObj "list" out.toArray 0) := (Heap.get?_push_size _ rfl)
  refine wpAny_bind (wpAny_holding (wpAny_call_entry PyProof.Rows.slot_list_sort ⟨_, hoL, rfl⟩ PyProof.Rows.entry_list_sort (SrtO.list_sort_ord swo_sg hoL hz (fun h2 => sortable_sg hT h2) fun out2 a1 a2 => ⟨_, rfl, ?_⟩) (PyProof.Rows.args_list_sort _)))
  have hm : ∀ v ∈ out2, ∃ x t, v = Value.str x t := fun v hv => hall _ (a2.perm.mem_iff.mp hv)
  have hp : (out2.map fun v => ofL (signsV v)).Perm (out.map fun v => ofL (signsV v)) := a2.perm.map _
  obtain ⟨e', he'⟩ := PyProof.Rows.sortedHeap_at (vs := out) (out := out2.toArray) hoL
  have hlen : (out2.map fun v => ofL (signsV v)).length = n := by rw [hp.length_eq, List.length_map]; exact hol
  refine wpAny_pure ⟨_, rfl, .ref s1.heap.objs.size, upd H s1.heap.objs.size (.lst ((out2.map fun v => ofL (signsV v)).map V.str)), I0.laid (t' := s1.toks) (fun b u e => ?_) (Nat.le_refl _) (show ObjOk X.prog X.w _ _ _ (.lst _) from ⟨by rw [List.length_map, hlen]; exact sz_of (by omega), out2, e', vals_of_strs (strs_of hm), he'⟩), rfl, q _ _ (fun z => hp.mem_iff.trans (hm0 z)) hlen (pw_of a1) (I0.hok.fresh (Nat.le_refl _))⟩
  have hb := Heap.lt_size e
  have hb2 : b < (s1.heap.push (PyProof.Rows.seqObj "list" out.toArray 0)).objs.size := by rw [PyProof.Rows.size_push']; exact Nat.lt_succ_of_lt hb
  exact (PyProof.Rows.sortedHeap_old (Nat.ne_of_lt hb) hb2).trans (Heap.get?_push_of_some _ e)
end

--CUT cls
/-! ### classes of the program's own, errors, calls that may raise -/
open L2H in
structure FnP (P : Program) (w : World) (K : PySem.W.Frag) (mg : Str → Option Value) (base : Heap) (k : Nat) (f : Addr) (fd : FuncData) (ps : List Str) (sp : Addr → Value → Option Addr → Sp) : Prop where
  len : ∀ a cls d vs H Q E, sp a cls d vs H Q E → vs.length = ps.length
  run : ∀ (A : Around) (outer : List Env) (s : Shared) (H : Hp) (args : Args) (us : List Value) (vs : List V) (Q : VK) (E : XK) (p : Addr × Obj) (cls : Value) (d : Option Addr), RoomH k A → Zc cls d p.2 → (∃ z, p.2.data = .fields z) → PinOk outer H s p →
    Env0 P w K mg base A outer s H → BindsTo s fd args (ps.zip us) → Vals vs us → sp p.1 cls d vs H Q E → codeAny (model P w) A (.call (.ref f) args) (CR CX0 outer P w H s Q E) s
structure HasM (K : PySem.W.Frag) (C : Addr) (x qual : Str) (st : Stmt) (ps : List Str) (f : Addr) (fd : FuncData) : Prop where
  m : Meth K C x f
  F : Fun K x qual st f fd
  b : Binds K fd ps []
structure HasI (K : PySem.W.Frag) (qual : Str) (st : Stmt) (ps : List Str) (f : Addr) (fd : FuncData) : Prop where
  F : Fun K "__init__" qual st f fd
  b : Binds K fd ps []
structure ExcF (K : PySem.W.Frag) (mg : Str → Option Value) (x : Str) (C : Addr) : Prop where
  g : mg x = some (.ref C)
  q : PySem.W.excIn K C [.type "ValueError", .type "Exception", .type "BaseException", .type "object"] "ValueError.__new__" = true
  kp : PySem.W.keepIn K (.ref C) = true
  b : PySem.W.subIn K (.ref C) (.type "BaseException") = some true
  t : PySem.W.typeIn K (.ref C) = some (.type "type")
theorem room_suite {j k : Nat} {A : Around} {v : Value} (r : Room j A) (h : k ≤ j) : L2H.RoomH k (A.mark (some v)) :=
  ⟨by have := r.dp; show A.depth + 3 * k + 5 < _; omega, by have := r.un; show A.units + 16 * k + 200 < _; omega⟩
section
variable {P : Program} {w : World} {K : PySem.W.Frag} {mg : Str → Option Value} {base : Heap}
open L2H PyProof.Rows in
/-- a def by its body, an error p being handled around it -/
theorem fun_okP {x qual : Str} {st : Stmt} {f : Addr} {fd : FuncData} {N ps : List Str} {k : Nat} {sp : Addr → Value → Option Addr → Sp} (F : Fun K x qual st f fd) (S : FnScope N ps (defScope st)) (len : ∀ a cls d vs H Q E, sp a cls d vs H Q E → vs.length = ps.length)
    (hbody : ∀ (cdv : Value) (A : Around) (outer : List Env) (s : Shared) (H : Hp) (vs : List V) (Q : VK) (E : XK) (p : Addr × Obj) (cls : Value) (d : Option Addr), RoomH k (A.deeper (envOfC qual (defScope st) s.heap.objs.size f cdv)) → Zc cls d p.2 → (∃ z, p.2.data = .fields z) → sp p.1 cls d vs H Q E →
      ∃ t, PSs (cxH CX0 P w K mg base N qual (defScope st) f cdv A outer s H E p) (defBody st) t ∧ t { nx := fun _ H' => Q .non H', rt := Q } (L2.start N vs) H) : FnP P w K mg base (k + 1) f fd ps sp := by
  obtain ⟨oc, od, kV, doc, pm, an, cdv, ct, osl, rfl, lk, hcd⟩ := F.ex
  refine ⟨len, fun A outer s H args us vs Q E p cls d hr hz hf hpin e0 hb r hsp => ?_⟩
  have hlen := len _ _ _ _ _ _ _ hsp
  have hkind : ∀ y ∈ ps.zip us, (defScope st).names.lookup y.1 = some .local ∨ ((defScope st).names.lookup y.1 = some .cell ∧ ((cellsFrom (s.heap.objs.size + 1) (defScope st).names []).lookup y.1).isSome = true) := fun ⟨m, u⟩ hy =>
    (S.par m (List.of_mem_zip hy).1).imp id fun q => ⟨q, PySem.W.cellsFrom_some _ _ _ (.inl q)⟩
  have hKX : K.In s.heap := e0.mod.kin.keeps (fun b o e => (e0.bs b o e).1)
  have hlim : s.heap.NoLimit := e0.mod.nolimit.keeps (fun b o e => (e0.bs b o e).1)
  refine codeAny_call_function hr.depth (hKX _ _ lk) rfl S.co S.gen rfl (PySem.W.codeRec_of hKX hcd) (hb _ _ _ _ (wpAny_newFunctionEnv_cells S.kind hkind (fun env he s1 x => ?_)))
  subst he
  refine ⟨hlim.keeps x.toInCall.keep, codeAny_func ?_⟩
  obtain ⟨t, ht, hq⟩ := hbody cdv A outer s H vs Q E p cls d (hr.deeper _) hz hf hsp
  have I0 : Inv (cxH CX0 P w K mg base N qual (defScope st) f cdv A outer s H E p) [] (L2.start N vs) H s1 := inv_startH S hpin e0 hlen r x
  refine wpAny_mono (ht.run [] s1 (L2.start N vs) H _ I0 hq) (fun fl s2 hs => ?_) (fun e s2 hs => hs)
  have done : ∀ {σ2 : L2.St} {H2 : Hp} {v : V} {u : Value}, Inv (cxH CX0 P w K mg base N qual (defScope st) f cdv A outer s H E p) [] σ2 H2 s2 → RelV v u → Q v H2 → CE outer P w H s Q u s2 :=
    fun {σ2 H2 v u} J rv q => ⟨v, H2, J.os, J.bare, J.base, J.hok, rv, q⟩
  match fl, hs with
  | .ret u, ⟨v, σ2, H2, J, rv, q⟩ => exact done J rv q
  | .next, ⟨σ2, H2, J, q⟩ => exact done (v := V.non) (u := Value.none) J rfl q
  | .brk, ⟨_, _, _, q⟩ => exact q.elim
  | .cont, ⟨_, _, _, q⟩ => exact q.elim
end
section
variable {X : Cx} {CX : CXT} {k : Nat} {f C : Addr} {fd : FuncData} {ps : List Str} {sp : Sp} {x m : Str} {p pos apos : Pos} {e o : Expr} {es : List Expr} {ta : TE} {t : TA}
open L2H in
/-- f(e) within an except suite that holds the error at a -/
theorem pe_callP {a : Addr} {oe : Obj} {cls : Value} {d : Option Addr} {pn : List (Addr × Obj)} {sq : Addr → Value → Option Addr → Sp} (F : FnP X.prog X.w X.K X.mg X.base k f fd ps sq) (hr : RoomH k (X.A.mark (some (.ref a)))) (hz : Zc cls d oe) (hf : ∃ z, oe.data = .fields z)
    (hg : Gl X x) (hm : X.mg x = some (.ref f)) (hk : PySem.W.keepIn X.K (.ref f) = true) (hb : Binds X.K fd ps []) (ha : PA (X.suite a ((a, oe) :: pn)) (e :: es) t)
    (hdb : (x == ("__debug__" : Str)) = false := by decide) (he : starEach (e :: es) X.env = (false, eval e X.env) :: starEach es X.env := by rfl) (hpl : (backTo pos (starEach es X.env)).any (·.1) = false := by rfl) :
    PE (X.suite a ((a, oe) :: pn)) (.Call (.Name x p) (e :: es) [] pos) (tCall (sq a cls d) [] E0 t) := by
  refine ⟨fun pins s σ H Q I h => wpAny_Call_Name_kw (ld_glob I hg hm ?_ hdb)⟩
  refine PySem.W.callWith_K (h₀ := X.base) I.ok.mod.kin hk (thn (ha.run pos pins s σ H _ I h) (fun us s1 hs => ?_)) he hpl
  obtain ⟨vs, H1, I1, r, q⟩ := hs
  refine ⟨I1.kIn, ?_⟩
  rw [List.append_nil] at q
  have hl : us.length = ps.length := by rw [← r.length]; exact F.len _ _ _ _ _ _ _ q
  have hbt := hb s1 us I1.kIn (by rw [List.append_nil]; exact hl)
  rw [List.append_nil] at hbt
  have P1 := I1.pin (a, oe) (List.mem_append_left _ List.mem_cons_self)
  have hpin : PinOk (X.suite a ((a, oe) :: pn)).stack H1 s1 (a, oe) := ⟨P1.1, P1.2.1, (fun hm => (List.mem_cons.mp (I1.stkSub a hm)).elim P1.2.2.1 P1.2.2.2.1), P1.2.2.2.2⟩
  refine wpAny_call (codeAny_mono (F.run _ _ s1 H1 ⟨us, []⟩ us vs Q E0 (a, oe) cls d hr hz hf hpin I1.env0 hbt r q) (fun rr s2 hq => ?_))
  match rr, hq with
  | .error _, hq => exact hq.elim
  | .ok (.ret u), hq => exact I1.after hq
  | .ok .next, hq => exact hq.elim
  | .ok .brk, hq => exact hq.elim
  | .ok .cont, hq => exact hq.elim
/-- isinstance(e, C), e the error that is handled around -/
theorem call_isP {a D : Addr} {oe : Obj} (hp : (a, oe) ∈ X.pn) (hC : ExcC X.K D) (hz : Zc (.ref D) none oe) (hf : ∃ vs, oe.data = .fields vs) : CallR X (.builtin "isinstance") (rIsE X.K D a) := by
  rintro pins s σ H _ us Q I r ⟨c, cv, b, rfl, hcv, e, q⟩
  cases r with
  | cons rx rr => cases rr with
    | cons rt rr =>
      cases rr
      cases rx
      obtain rfl := hcv _ rt
      obtain ⟨hget, _⟩ := I.pin (a, oe) (List.mem_append_left _ hp)
      obtain ⟨vs, hv⟩ := hf
      have J : PySem.W.InstAt s.heap a oe D none := by
        obtain ⟨oc, od, oda, osl⟩ := oe
        dsimp only at hv
        have h1 : oc = .ref D := hz.1
        have h2 : od = none := hz.2
        subst h1 h2 hv
        exact ⟨hget, rfl, rfl, trivial⟩
      refine PySem.W.kia_one (PySem.W.handS_kitx_exc hC.hg hC.hk hC.hs hC.hd hC.ha hC.hn hC.ht hC.hm) I.kIn J e (fun z => nomatch z) fun tk => ?_
      exact ⟨.bl b, H, I.kept (t' := tk) fun _ _ z => z, rfl, q⟩
def tMethE (C : Addr) (m : Str) (sp : Sp) (E : L2.St → XK) (ta : TE) (t : TA) : TE := fun σ H Q => ta σ H fun x H1 => ∃ a dx fs, x = .ref a ∧ H1 a = some (.ins C dx fs) ∧ fs.lookup m = none ∧ t σ H1 fun vs H2 => sp (x :: vs) H2 Q (E σ)
/-- o.m(e, ..) in a try's body -/
theorem pe_methE {E : L2.St → XK} {pl : Sem Bool} (he : PE X o ta) (c : Cls X.K C) (hm : Meth X.K C m f) (F : FnOk X.prog X.w X.K X.mg X.base CX k f fd ps sp) (hr : Room k X.A) (hb : Binds X.K fd ps []) (hx : ∀ σ, PassesAt CX X σ (E σ)) (ha : PA X (e :: es) t)
    (hst : starEach (e :: es) X.env = (false, eval e X.env) :: starEach es X.env := by rfl) (hpl : (backTo pos (starEach es X.env)).any (·.1) = false := by rfl)
    (ht : eval (.Call (.Attribute o m apos) (e :: es) [] pos) X.env = (do let ov ← eval o X.env; standAt apos.atName; let (f, first) ← holding [ov] (getMethod ov m pl); callWith pos f first (backTo pos (starEach (e :: es) X.env)) (backToKw pos (keywordEach [] X.env))) := by rfl) :
    PE X (.Call (.Attribute o m apos) (e :: es) [] pos) (tMethE C m sp E ta t) := by
  refine ⟨fun pins s σ H Q I h => PySem.W.methodCall_KW (pl := pl) (thn (he.run pins s σ H _ I h) fun u s1 hs => ?_) ht⟩
  obtain ⟨_, H1, I1, rx, a, dx, fs, rfl, ea, l, q⟩ := hs
  cases (show u = Value.ref a from rx)
  refine getmeth_ok I1 ea c hm l (PySem.W.callWith_K (first := [.ref a]) (h₀ := X.base) I.ok.mod.kin hm.kp (thn (ha.run pos pins s1 σ H1 _ I1 q) fun us s2 hs2 => ?_) hst hpl)
  obtain ⟨vs, H2, I2, r, q2⟩ := hs2
  exact ⟨I2.kIn, run_fnS (us := .ref a :: us) (vs := .ref a :: vs) F hr hb (hx σ) I2 (.cons rfl r) q2⟩
def tMakeE (C : Addr) (sp : Sp) (E : L2.St → XK) (t : TA) : TE := fun σ H Q => t σ H fun vs H1 => ∀ x dx, H1 x = none → H1 dx = none → dx ≠ x →
  sp (.ref x :: vs) (upd (upd H1 dx (.own x)) x (.ins C dx [])) (fun v H2 => v = .non ∧ Q (.ref x) H2) (E σ)
theorem run_makeS {pins : List (Addr × Obj)} {σ : L2.St} {H : Hp} {s : Shared} {Q : VK} {E : XK} {us : List Value} {vs : List V} (M : Mk X.K C f) (F : FnOk X.prog X.w X.K X.mg X.base CX k f fd ps sp) (hr : Room (k + 1) X.A) (hb : Binds X.K fd ps [])
    (hx : PassesAt CX X σ E) (I : Inv X pins σ H s) (r : Vals vs us) (h : ∀ x dx, H x = none → H dx = none → dx ≠ x → sp (.ref x :: vs) (upd (upd H dx (.own x)) x (.ins C dx [])) (fun v H2 => v = .non ∧ Q (.ref x) H2) E) :
    wpAny (model X.prog X.w) X.A (call (.ref C) us) (EP X pins σ Q) X.xe s := by
  have hq := h (s.heap.objs.size + 1) s.heap.objs.size (I.hok.fresh (Nat.le_succ _)) (I.hok.fresh (Nat.le_refl _)) (Nat.ne_of_lt (Nat.lt_succ_self _))
  have J := Inv.made (C := C) I
  have r' : Vals (V.ref (s.heap.objs.size + 1) :: vs) (Value.ref (s.heap.objs.size + 1) :: us) := .cons rfl r
  have hl : (Value.ref (s.heap.objs.size + 1) :: us).length = ps.length := by rw [← r'.length]; exact F.len _ _ _ _ hq
  have hbt := hb _ (Value.ref (s.heap.objs.size + 1) :: us) J.kIn (by rw [List.append_nil]; exact hl)
  rw [List.append_nil] at hbt
  refine wpAny_call (make_map (f := f) I.kIn M.makes M.init (beq_iff_eq.mp M.fn) (codeAny_mono (F.run _ X.stack _ _ ⟨_, []⟩ _ _ _ E (hr.make C us []) (J.env0.make C us []) hbt r' hq) (fun rr s' hq' => ?_)))
  match rr, hq' with
  | .error e, hq' => exact hx pins _ _ e s' J hq'
  | .ok (.ret u), hq' =>
    obtain ⟨_, H', I3, rv, rfl, q3⟩ := J.after hq'
    exact ⟨rv, V.ref (s.heap.objs.size + 1), H', I3, rfl, q3⟩
  | .ok .next, hq' => exact hq'.elim
  | .ok .brk, hq' => exact hq'.elim
  | .ok .cont, hq' => exact hq'.elim
/-- C(e, ..) in a try's body -/
theorem pe_makeE {E : L2.St → XK} (M : Mk X.K C f) (F : FnOk X.prog X.w X.K X.mg X.base CX k f fd ps sp) (hr : Room (k + 1) X.A) (hg : Gl X x) (hm : X.mg x = some (.ref C)) (hb : Binds X.K fd ps []) (hx : ∀ σ, PassesAt CX X σ (E σ)) (ha : PA X (e :: es) t)
    (hdb : (x == ("__debug__" : Str)) = false := by decide) (he : starEach (e :: es) X.env = (false, eval e X.env) :: starEach es X.env := by rfl) (hpl : (backTo pos (starEach es X.env)).any (·.1) = false := by rfl) :
    PE X (.Call (.Name x p) (e :: es) [] pos) (tMakeE C sp E t) := by
  refine ⟨fun pins s σ H Q I h => wpAny_Call_Name_kw (ld_glob I hg hm ?_ hdb)⟩
  refine PySem.W.callWith_K (h₀ := X.base) I.ok.mod.kin M.kp (thn (ha.run pos pins s σ H _ I h) (fun us s1 hs => ?_)) he hpl
  obtain ⟨vs, H1, I1, r, q⟩ := hs
  exact ⟨I1.kIn, run_makeS M F hr hb (hx σ) I1 r q⟩
end

--CUT head
def top (i : Nat) : Stmt := PySem.Challenge.pw_gossipcount_k10_read.main.body.getD i (.Pass ⟨0, 0, 0, 0⟩)
abbrev s_is_name : Stmt := top 9
theorem sc_is_name : FnScope ["thing", "sign"] ["thing"] (defScope s_is_name) := ⟨rfl, rfl, rfl, by decide +kernel, rfl, by decide +kernel, by decide +kernel⟩
abbrev s_is_whole : Stmt := top 10
theorem sc_is_whole : FnScope ["thing"] ["thing"] (defScope s_is_whole) := ⟨rfl, rfl, rfl, by decide +kernel, rfl, by decide +kernel, by decide +kernel⟩
abbrev s_is_share : Stmt := top 14
theorem sc_is_share : FnScope ["thing", "number"] ["thing"] (defScope s_is_share) := ⟨rfl, rfl, rfl, by decide +kernel, rfl, by decide +kernel, by decide +kernel⟩
abbrev s_is_page : Stmt := top 17
theorem sc_is_page : FnScope ["thing", "name", "share"] ["thing"] (defScope s_is_page) := ⟨rfl, rfl, rfl, by decide +kernel, rfl, by decide +kernel, by decide +kernel⟩
abbrev s_is_entry : Stmt := top 18
theorem sc_is_entry : FnScope ["name", "share"] ["name", "share"] (defScope s_is_entry) := ⟨rfl, rfl, rfl, by decide +kernel, rfl, by decide +kernel, by decide +kernel⟩
abbrev s_written : Stmt := top 22
theorem sc_written : FnScope ["page", "name"] ["page"] (defScope s_written) := ⟨rfl, rfl, rfl, by decide +kernel, rfl, by decide +kernel, by decide +kernel⟩
abbrev s_entry : Stmt := top 23
theorem sc_entry : FnScope ["name", "share"] ["name", "share"] (defScope s_entry) := ⟨rfl, rfl, rfl, by decide +kernel, rfl, by decide +kernel, by decide +kernel⟩
abbrev s_read : Stmt := top 24
theorem sc_read : FnScope ["text", "page", "entry", "name", "share"] ["text"] (defScope s_read) := ⟨rfl, rfl, rfl, by decide +kernel, rfl, by decide +kernel, by decide +kernel⟩
abbrev s_read_entry : Stmt := top 25
theorem sc_read_entry : FnScope ["entry", "parts"] ["entry"] (defScope s_read_entry) := ⟨rfl, rfl, rfl, by decide +kernel, rfl, by decide +kernel, by decide +kernel⟩
abbrev s_read_number : Stmt := top 26
theorem sc_read_number : FnScope ["sign", "part", "figures", "figure"] ["sign", "part"] (defScope s_read_number) := ⟨rfl, rfl, rfl, by decide +kernel, rfl, by decide +kernel, by decide +kernel⟩
abbrev s_law_cell_at : Stmt := top 28
theorem sc_law_cell_at : FnScope ["_law_script", "_law_k"] ["_law_script", "_law_k"] (defScope s_law_cell_at) := ⟨rfl, rfl, rfl, by decide +kernel, rfl, by decide +kernel, by decide +kernel⟩
abbrev s_law_whole : Stmt := top 29
theorem sc_law_whole : FnScope ["_law_found"] ["_law_found"] (defScope s_law_whole) := ⟨rfl, rfl, rfl, by decide +kernel, rfl, by decide +kernel, by decide +kernel⟩
abbrev s_law_share : Stmt := top 30
theorem sc_law_share : FnScope ["_law_found", "_law_due_here"] ["_law_found", "_law_due_here"] (defScope s_law_share) := ⟨rfl, rfl, rfl, by decide +kernel, rfl, by decide +kernel, by decide +kernel⟩
abbrev s_law_name_by : Stmt := top 31
theorem sc_law_name_by : FnScope ["_law_cell", "_law_signs", "_law_step", "_law_word", "_law_k"] ["_law_cell"] (defScope s_law_name_by) := ⟨rfl, rfl, rfl, by decide +kernel, rfl, by decide +kernel, by decide +kernel⟩
abbrev s_law_same : Stmt := top 32
theorem sc_law_same : FnScope ["_law_found", "_law_due_here", "_law_name"] ["_law_found", "_law_due_here"] (defScope s_law_same) := ⟨rfl, rfl, rfl, by decide +kernel, rfl, by decide +kernel, by decide +kernel⟩
abbrev s_law_kind : Stmt := top 33
theorem sc_law_kind : FnScope ["_law_error", "_law_words"] ["_law_error"] (defScope s_law_kind) := ⟨rfl, rfl, rfl, by decide +kernel, rfl, by decide +kernel, by decide +kernel⟩
abbrev s_law_sign_by : Stmt := top 34
theorem sc_law_sign_by : FnScope ["_law_cell", "_law_some"] ["_law_cell"] (defScope s_law_sign_by) := ⟨rfl, rfl, rfl, by decide +kernel, rfl, by decide +kernel, by decide +kernel⟩
abbrev s_law_row_by : Stmt := top 35
theorem sc_law_row_by : FnScope ["_law_name", "_law_numbers", "_law_figures", "_law_k", "_law_cell", "_law_number", "_law_word"] ["_law_name", "_law_numbers"] (defScope s_law_row_by) := ⟨rfl, rfl, rfl, by decide +kernel, rfl, by decide +kernel, by decide +kernel⟩
abbrev s_law_bent : Stmt := top 36
theorem sc_law_bent : FnScope ["_law_text", "_law_cell", "_law_size", "_law_at", "_law_sign", "_law_odd"] ["_law_text", "_law_cell"] (defScope s_law_bent) := ⟨rfl, rfl, rfl, by decide +kernel, rfl, by decide +kernel, by decide +kernel⟩
abbrev s_law_number_of : Stmt := top 37
theorem sc_law_number_of : FnScope ["_law_word", "_law_sign", "_law_one"] ["_law_word", "_law_sign"] (defScope s_law_number_of) := ⟨rfl, rfl, rfl, by decide +kernel, rfl, by decide +kernel, by decide +kernel⟩
abbrev s_law_named : Stmt := top 38
theorem sc_law_named : FnScope ["_law_word", "_law_one"] ["_law_word"] (defScope s_law_named) := ⟨rfl, rfl, rfl, by decide +kernel, rfl, by decide +kernel, by decide +kernel⟩
abbrev s_law_due : Stmt := top 39
theorem sc_law_due : FnScope ["_law_text", "_law_page", "_law_last", "_law_part", "_law_words", "_law_share_here"] ["_law_text"] (defScope s_law_due) := ⟨rfl, rfl, rfl, by decide +kernel, rfl, by decide +kernel, by decide +kernel⟩
abbrev s_law : Stmt := top 40
theorem sc_law : FnScope ["_law_script", "_law_rows", "_law_k", "_law_text", "_law_due_here", "_law_found", "_law_error"] ["_law_script"] (defScope s_law) := ⟨rfl, rfl, rfl, by decide +kernel, rfl, by decide +kernel, by decide +kernel⟩
structure Txt (K : PySem.W.Frag) (mg : Str → Option Value) where
  c_GossipError : Addr
  x_GossipError : ExcF K mg "GossipError" c_GossipError
  c_NoName : Addr
  x_NoName : ExcF K mg "NoName" c_NoName
  c_NoAmount : Addr
  x_NoAmount : ExcF K mg "NoAmount" c_NoAmount
  c_NoPage : Addr
  x_NoPage : ExcF K mg "NoPage" c_NoPage
  c_Forged : Addr
  x_Forged : ExcF K mg "Forged" c_Forged
  c_NoNote : Addr
  x_NoNote : ExcF K mg "NoNote" c_NoNote
  e_NoNote : PySem.W.exmOne K (.ref c_NoNote) (.ref c_GossipError) = some true
  k_NoNote : ExcC K c_NoNote
  kv_NoNote : PySem.W.kitOne K (.ref c_NoNote) (.type "ValueError") = some true
  ki_NoNote_NoName : PySem.W.kitOne K (.ref c_NoNote) (.ref c_NoName) = some false
  ki_NoNote_NoAmount : PySem.W.kitOne K (.ref c_NoNote) (.ref c_NoAmount) = some false
  ki_NoNote_NoPage : PySem.W.kitOne K (.ref c_NoNote) (.ref c_NoPage) = some false
  ki_NoNote_Forged : PySem.W.kitOne K (.ref c_NoNote) (.ref c_Forged) = some false
  ki_NoNote_NoNote : PySem.W.kitOne K (.ref c_NoNote) (.ref c_NoNote) = some true
  a_is_name : Addr
  d_is_name : FuncData
  h_is_name : Has K mg "is_name" s_is_name ["thing"] a_is_name d_is_name
  a_is_whole : Addr
  d_is_whole : FuncData
  h_is_whole : Has K mg "is_whole" s_is_whole ["thing"] a_is_whole d_is_whole
  a_is_share : Addr
  d_is_share : FuncData
  h_is_share : Has K mg "is_share" s_is_share ["thing"] a_is_share d_is_share
  a_is_page : Addr
  d_is_page : FuncData
  h_is_page : Has K mg "is_page" s_is_page ["thing"] a_is_page d_is_page
  a_is_entry : Addr
  d_is_entry : FuncData
  h_is_entry : Has K mg "_is_entry" s_is_entry ["name", "share"] a_is_entry d_is_entry
  a_written : Addr
  d_written : FuncData
  h_written : Has K mg "written" s_written ["page"] a_written d_written
  a_entry : Addr
  d_entry : FuncData
  h_entry : Has K mg "_entry" s_entry ["name", "share"] a_entry d_entry
  a_read : Addr
  d_read : FuncData
  h_read : Has K mg "read" s_read ["text"] a_read d_read
  a_read_entry : Addr
  d_read_entry : FuncData
  h_read_entry : Has K mg "_read_entry" s_read_entry ["entry"] a_read_entry d_read_entry
  a_read_number : Addr
  d_read_number : FuncData
  h_read_number : Has K mg "_read_number" s_read_number ["sign", "part"] a_read_number d_read_number
  a_law_cell_at : Addr
  d_law_cell_at : FuncData
  h_law_cell_at : Has K mg "_law_cell_at" s_law_cell_at ["_law_script", "_law_k"] a_law_cell_at d_law_cell_at
  a_law_whole : Addr
  d_law_whole : FuncData
  h_law_whole : Has K mg "_law_whole" s_law_whole ["_law_found"] a_law_whole d_law_whole
  a_law_share : Addr
  d_law_share : FuncData
  h_law_share : Has K mg "_law_share" s_law_share ["_law_found", "_law_due_here"] a_law_share d_law_share
  a_law_name_by : Addr
  d_law_name_by : FuncData
  h_law_name_by : Has K mg "_law_name_by" s_law_name_by ["_law_cell"] a_law_name_by d_law_name_by
  a_law_same : Addr
  d_law_same : FuncData
  h_law_same : Has K mg "_law_same" s_law_same ["_law_found", "_law_due_here"] a_law_same d_law_same
  a_law_kind : Addr
  d_law_kind : FuncData
  h_law_kind : Has K mg "_law_kind" s_law_kind ["_law_error"] a_law_kind d_law_kind
  a_law_sign_by : Addr
  d_law_sign_by : FuncData
  h_law_sign_by : Has K mg "_law_sign_by" s_law_sign_by ["_law_cell"] a_law_sign_by d_law_sign_by
  a_law_row_by : Addr
  d_law_row_by : FuncData
  h_law_row_by : Has K mg "_law_row_by" s_law_row_by ["_law_name", "_law_numbers"] a_law_row_by d_law_row_by
  a_law_bent : Addr
  d_law_bent : FuncData
  h_law_bent : Has K mg "_law_bent" s_law_bent ["_law_text", "_law_cell"] a_law_bent d_law_bent
  a_law_number_of : Addr
  d_law_number_of : FuncData
  h_law_number_of : Has K mg "_law_number_of" s_law_number_of ["_law_word", "_law_sign"] a_law_number_of d_law_number_of
  a_law_named : Addr
  d_law_named : FuncData
  h_law_named : Has K mg "_law_named" s_law_named ["_law_word"] a_law_named d_law_named
  a_law_due : Addr
  d_law_due : FuncData
  h_law_due : Has K mg "_law_due" s_law_due ["_law_text"] a_law_due d_law_due
  a_law : Addr
  d_law : FuncData
  h_law : Has K mg "law" s_law ["_law_script"] a_law d_law
  n_ValueError : mg "ValueError" = none
  n_all : mg "all" = none
  n_bool : mg "bool" = none
  n_dict : mg "dict" = none
  n_int : mg "int" = none
  n_isinstance : mg "isinstance" = none
  n_len : mg "len" = none
  n_list : mg "list" = none
  n_range : mg "range" = none
  n_sorted : mg "sorted" = none
  n_str : mg "str" = none
  n_tuple : mg "tuple" = none
  v_LONGEST_NAME : Value
  g_LONGEST_NAME : mg "LONGEST_NAME" = some v_LONGEST_NAME ∧ RelV (.int (8)) v_LONGEST_NAME
  p_NOTHING : Addr
  g_NOTHING : mg "NOTHING" = some (.ref p_NOTHING) ∧ RelV (.ref p_NOTHING) (.ref p_NOTHING)
  t_NOTHING : ∀ H, SqT K H p_NOTHING [.int 0, .int 0]
  v_BEYOND : Value
  g_BEYOND : mg "BEYOND" = some v_BEYOND ∧ RelV (.int (10 ^ 60)) v_BEYOND
  v_MOST_NAMES : Value
  g_MOST_NAMES : mg "MOST_NAMES" = some v_MOST_NAMES ∧ RelV (.int (200)) v_MOST_NAMES
  v_NOBODY : Value
  g_NOBODY : mg "NOBODY" = some v_NOBODY ∧ RelV (.str "nobody") v_NOBODY
  v_MOST_FIGURES : Value
  g_MOST_FIGURES : mg "MOST_FIGURES" = some v_MOST_FIGURES ∧ RelV (.int (60)) v_MOST_FIGURES
def spLaw (K : PySem.W.Frag) : Sp := fun vs H Q _ => ∃ (a : Addr) (ns : List Int), vs = [.ref a] ∧ SqL K H a (ns.map V.int) ∧ ns.length ≤ 63 ∧ ∀ H', Q (.bl true) H'
/-! ### loops over a locked dict -/
def lkD (D : Ends) (d : Addr) (od : Obj) (u : HO) : Ends := ⟨fun σ' H' => H' d = some (.frz od u) ∧ D.nx σ' (upd H' d u), fun v H' => H' d = some (.frz od u) ∧ D.rt v (upd H' d u), fun σ' H' => H' d = some (.frz od u) ∧ D.bk σ' (upd H' d u), fun σ' H' => H' d = some (.frz od u) ∧ D.ct σ' (upd H' d u)⟩
section
variable {K : PySem.W.Frag} {σ : L2.St} {H H' : Hp} {ta : TA} {td : TE} {D : Ends} {t tz tb : TS}
theorem q_lock {d : Addr} {kvs : List (Key × V)} (hd : H d = some (.dK kvs)) (h : ∀ od, t (lkD { D with nx := tz D } d od (.dK kvs)) σ (upd H d (.frz od (.dK kvs)))) : tSeq (tLock t) tz D σ H := ⟨d, .dK kvs, hd, trivial, h⟩
theorem s_lock {d : Addr} {kvs : List (Key × V)} (hd : H d = some (.dK kvs)) (h : ∀ od, t (lkD D d od (.dK kvs)) σ (upd H d (.frz od (.dK kvs)))) : tLock t D σ H := ⟨d, .dK kvs, hd, trivial, h⟩
theorem s_forEnumD {d : Addr} {od : Obj} {kvs : List (Key × V)} {i j n : Nat} (h : Ev td σ H (.ref d)) (hn : n = 2) (hd : H d = some (.frz od (.dK kvs))) (Pv : Nat → L2.St → Hp → Prop) (h0 : ∀ H1, Ex H H1 → Pv 0 σ H1) (hl : ∀ m σ' H', Pv m σ' H' → H' d = some (.frz od (.dK kvs)))
    (hs : ∀ m k u σ' H' T, kvs[m]? = some (k, u) → Pv m σ' H' → H' T = none → tb { D with nx := Pv (m + 1), ct := Pv (m + 1), bk := D.nx } ((σ'.set i (some (.int (m : Nat)))).set j (some (kV k))) (upd H' T (.tup [.int (m : Nat), kV k])))
    (he : ∀ σ' H', Pv kvs.length σ' H' → D.nx σ' H') : tFor (iEnumD (tCons td tNil)) (gTup K n (gCons (gName i) (gCons (gName j) gNil))) tb D σ H :=
  h H (Ex.refl H) _ fun H1 e1 => ⟨d, od, kvs, rfl, e1 _ _ hd, for_it (walk_enumD (d := d) (o := od) (kvs := kvs)) Pv (h0 H1 e1) (fun m σ' H' _ p => hl m σ' H' p) (fun m x σ' H' H'' _ p y => by
      obtain ⟨T, k, u, rfl, hT, rfl, hkv⟩ := y
      exact ⟨T, [.int (m : Nat), kV k], rfl, .inl (.inl upd_same), by rw [hn]; rfl, .int (m : Nat), [kV k], rfl, kV k, [], rfl, rfl, hs m k u σ' H' T hkv p hT⟩) he⟩
theorem s_forKeys {d : Addr} {od : Obj} {kvs : List (Key × V)} {i : Nat} (h : Ev td σ H (.ref d)) (hd : H d = some (.frz od (.dK kvs))) (Pv : Nat → L2.St → Hp → Prop) (h0 : ∀ H1, Ex H H1 → Pv 0 σ H1) (hl : ∀ m σ' H', Pv m σ' H' → H' d = some (.frz od (.dK kvs)))
    (hs : ∀ m k u σ' H', kvs[m]? = some (k, u) → Pv m σ' H' → tb { D with nx := Pv (m + 1), ct := Pv (m + 1), bk := D.nx } (σ'.set i (some (kV k))) H')
    (he : ∀ σ' H', Pv kvs.length σ' H' → D.nx σ' H') : tFor (iKeys td) (gName i) tb D σ H :=
  h H (Ex.refl H) _ fun H1 e1 => ⟨d, od, rfl, .inl ⟨kvs, e1 _ _ hd, for_it (walk_keys (d := d) (o := od) (kvs := kvs)) Pv (h0 H1 e1) (fun m σ' H' _ p => hl m σ' H' p) (fun m x σ' H' H'' _ p y => by
      obtain ⟨rfl, k, u, hkv, rfl⟩ := y
      exact hs m k u σ' H'' hkv p) he⟩⟩
theorem upd_tF {d q : Addr} {xs : List V} {od : Obj} {kvs : List (Key × V)} {o : HO} (hd : H d = some (.frz od (.dK kvs))) (h : SqT K H q xs) : SqT K (upd H d o) q xs := by
  rcases h with (h | ⟨o, h⟩) | h
  · exact .inl (.inl (by rw [upd_ne (ne_of h hd (by intro z; cases z))]; exact h))
  · exact .inl (.inr ⟨o, by rw [upd_ne (ne_of h hd (by intro z; cases z))]; exact h⟩)
  · exact .inr h
theorem PgAt.updF {d a : Addr} {p : Pg} {od : Obj} {kvs : List (Key × V)} {o : HO} (hd : H d = some (.frz od (.dK kvs))) (hne : a ≠ d) (h : PgAt K H a p) : PgAt K (L2.upd H d o) a p :=
  let ⟨ks, h1, h2, h3⟩ := h; ⟨ks, by rw [upd_ne hne]; exact h1, h2.to fun _ _ => upd_tF hd, h3⟩
theorem PgRd.lock {d a : Addr} {od : Obj} {kvs : List (Key × V)} {p : Pg} (hd : H d = some (.dK kvs)) (h : PgRd K H a p) : PgRd K (L2.upd H d (.frz od (.dK kvs))) a p := by
  obtain ⟨ks, h1, h2, h3⟩ := h
  refine ⟨ks, ?_, h2.to fun _ _ => upd_t hd, h3⟩
  by_cases e : a = d
  · subst e
    rcases h1 with h1 | ⟨f, h1⟩
    · obtain rfl := HO.dK.inj (Option.some.inj (hd.symm.trans h1))
      exact .inr ⟨od, upd_same⟩
    · exact absurd (hd.symm.trans h1) (by intro z; cases z)
  · rcases h1 with h1 | ⟨f, h1⟩
    · exact .inl (by rw [upd_ne e]; exact h1)
    · exact .inr ⟨f, by rw [upd_ne e]; exact h1⟩
end

/-! ### a dict comprehension over any walk -/
section
variable {J : It} {n : Nat} {G : Hp → Prop} {Y : Nat → Hp → V → Hp → Prop}
theorem dc_walk (w : Walk J n G Y) {g : TG} {tt : TT} {tk tv : TE} {vs : List Nat} {σ : L2.St} {H1 : Hp} {D : Addr} {Qd : Hp → Prop} (Pv : Nat → Hp → Prop) (h0 : Pv 0 (upd H1 D (.dK []))) (hG : ∀ i H, i ≤ n → Pv i H → G H)
    (hs : ∀ i x H H', i < n → Pv i H → Y i H x H' → g x (wipe σ vs) H' fun σ2 H2 => wipe σ2 vs = wipe σ vs ∧ tt σ2 H2 fun b H3 =>
      if b = true then tk σ2 H3 fun y H4 => tv σ2 H4 fun z H5 => ∃ kvs k, y = kV k ∧ H5 D = some (.dK kvs) ∧ kvs.length < sizeLine ∧ Pv (i + 1) (upd H5 D (.dK (putK kvs k z))) else Pv (i + 1) H3) (hd : ∀ H, Pv n H → Qd H) :
    ∃ W : Nat → Nat → Hp → Prop, (∃ m, W 0 m (upd H1 D (.dK []))) ∧ ∀ i m H, W i m H →
      (J.stop i H ∧ Qd H) ∨ (J.go i H ∧ ∃ Nx : Hp → Prop, (∀ H', Nx H' → ∃ m', m' < m ∧ W (i + 1) m' H') ∧ ∀ x H', J.yld i H x H' → g x (wipe σ vs) H' fun σ2 H2 => wipe σ2 vs = wipe σ vs ∧ tt σ2 H2 fun b H3 =>
        if b = true then tk σ2 H3 fun y H4 => tv σ2 H4 fun z H5 => ∃ kvs k, y = kV k ∧ H5 D = some (.dK kvs) ∧ kvs.length < sizeLine ∧ Nx (upd H5 D (.dK (putK kvs k z))) else Nx H3) := by
  refine ⟨fun i m H => m = n - i ∧ i ≤ n ∧ Pv i H, ⟨n, by simp, Nat.zero_le _, h0⟩, ?_⟩
  rintro i m H ⟨rfl, hi, pv⟩
  have gg := hG i H hi pv
  rcases Nat.lt_or_ge i n with lt | ge
  · exact .inr ⟨w.goes i H lt gg, Pv (i + 1), fun H' p' => ⟨n - (i + 1), by omega, rfl, lt, p'⟩, fun x H' y => hs i x H H' lt pv (w.yields i H x H' lt gg y)⟩
  · obtain rfl : i = n := by omega
    exact .inl ⟨w.stops H gg, hd H pv⟩
end
def reachB (a b : Int × Int) : Bool := decide (b.1 ≤ a.1) && decide (b.2 ≤ a.2)
section
variable {K : PySem.W.Frag} {σ : L2.St} {H H' : Hp} {td tk tx te : TE} {x y v : V}
theorem dget_rd {d : Addr} {p : Pg} {n : Nm} (h : PgRd K H d p) : (∃ q s, DGet H d (.str (ofL n)) (some (.ref q)) ∧ getP p n = some s ∧ SqT K H q [.int s.1, .int s.2]) ∨ (DGet H d (.str (ofL n)) none ∧ getP p n = none) := by
  obtain ⟨kvs, hd, hp, _⟩ := h
  rcases hp.get n with ⟨q, s, h1, h2, h3⟩ | ⟨h1, h2⟩
  · exact .inl ⟨q, s, .inl ⟨kvs, .inr (ofL n), hd, rfl, h1.symm⟩, h2, h3⟩
  · exact .inr ⟨.inl ⟨kvs, .inr (ofL n), hd, rfl, h1.symm⟩, h2⟩
/-- d[n], n in the page -/
theorem x_dget {d : Addr} {p : Pg} {n : Nm} {s : Int × Int} (h1 : Ev td σ H (.ref d)) (h2 : Ev tk σ H (.str (ofL n))) (hp : PgRd K H d p) (hs : getP p n = some s) : EvX (tDGet td tk) σ H (Tp K [.int s.1, .int s.2]) := fun H1 e Q q =>
  h1 H1 e _ fun H2 e2 => h2 H2 (e.trans e2) _ fun H3 e3 => by
    rcases dget_rd (n := n) (hp.mono ((e.trans e2).trans e3)) with ⟨r, s', g1, g2, g3⟩ | ⟨_, g2⟩
    · rw [hs] at g2
      obtain rfl := Option.some.inj g2
      exact ⟨d, _, rfl, g1, q _ H3 (e2.trans e3) ⟨r, rfl, g3⟩⟩
    · rw [hs] at g2
      cases g2
/-- d.get(n, x) -/
theorem x_dget2 {d : Addr} {p : Pg} {n : Nm} {s0 : Int × Int} (h1 : Ev td σ H (.ref d)) (h2 : Ev tk σ H (.str (ofL n))) (h3 : EvX tx σ H (Tp K [.int s0.1, .int s0.2])) (hp : PgRd K H d p) :
    EvX (tDGet2 td tk tx) σ H (Tp K [.int ((getP p n).getD s0).1, .int ((getP p n).getD s0).2]) := fun H1 e Q q =>
  h1 H1 e _ fun H2 e2 => ⟨d, rfl, let ⟨kvs, a, _⟩ := hp.mono (e.trans e2); .inl ⟨kvs, a⟩, h2 H2 (e.trans e2) _ fun H3 e3 => h3 H3 ((e.trans e2).trans e3) _ fun z H4 e4 hz => by
    have e24 : Ex H2 H4 := e3.trans e4
    rcases dget_rd (n := n) (hp.mono ((e.trans e2).trans e24)) with ⟨r, s', g1, g2, g3⟩ | ⟨g1, g2⟩
    · refine ⟨_, g1, q _ H4 (e2.trans e24) ⟨r, rfl, ?_⟩⟩
      rw [g2]
      exact g3
    · refine ⟨_, g1, q _ H4 (e2.trans e24) ?_⟩
      rw [g2]
      exact hz⟩
end
def lackP (p q : Pg) (ns : List Nm) : Pg := ns.filterMap fun n => (getP q n).bind fun s => if reachB ((getP p n).getD (0, 0)) s = true then none else some (n, s)
def RisingN (ns : List Nm) : Prop := ns.Pairwise fun a b => ¬ b < a

/-! ### a page that is walked by its names -/
section
variable {K : PySem.W.Frag} {σ : L2.St} {H H' : Hp} {te td : TE}
/-- [e for k in d] -/
theorem el_lockKeys {d : Addr} {kvs : List (Key × V)} {i : Nat} {vs : List Nat} (vals : List V) (hv : vals.length = kvs.length) (hd : H d = some (.dK kvs)) (h : ∀ H', Ev td σ H' (.ref d)) (hz : kvs.length ≤ 30000)
    (hw : ∀ x, wipe ((wipe σ vs).set i (some x)) vs = wipe σ vs) (he : ∀ (m : Nat) (kv : Key × V) (u : V), kvs[m]? = some kv → vals[m]? = some u → ∀ od H1, Ex (upd H d (.frz od (.dK kvs))) H1 → Ev te ((wipe σ vs).set i (some (kV kv.1))) H1 u) :
    EvL (tLockE (tLc (iKeys td) (gName i) tYes te vs)) σ H vals := fun H0 e Q q => by
  refine ⟨d, .dK kvs, e _ _ hd, trivial, fun od => ?_⟩
  refine h _ _ (Ex.refl _) _ fun H2 e2 => ?_
  have hd2 : H2 d = some (.frz od (.dK kvs)) := e2 d _ upd_same
  have e02 : Ex (upd H d (.frz od (.dK kvs))) H2 := (ex_upd2 e).trans e2
  refine ⟨d, od, rfl, .inl ⟨kvs, hd2, fun Dl hD => ?_⟩⟩
  refine lc_it (walk_keys (d := d) (o := od) (kvs := kvs)) (Cw H2 (fun _ => true) (fun i => vals[i]?.getD .non) Dl) ⟨hD, Ex.new hD, upd_same⟩ (fun _ H' _ p => p.2.1 d _ hd2) (fun m x H' H'' hi p y => ?_) (fun H' p => ?_)
  · obtain ⟨rfl, k, v, hkv, rfl⟩ := y
    have hi' : m < vals.length := by omega
    have hu : vals[m]? = some vals[m] := List.getElem?_eq_getElem hi'
    refine ⟨hw _, ?_⟩
    refine cw_turn p (by omega) et_yes (fun _ => ?_)
    rw [hu]
    exact he m (k, v) vals[m] hkv hu od H2 e02
  · have hne : Dl ≠ d := fun z => by
      rw [z, hd2] at hD
      cases hD
    refine ⟨p.2.1 d _ hd2, q Dl _ (lock_free (e _ _ hd) e2 hD) (unlock (e _ _ hd) (e2.trans p.2.1)) ?_⟩
    rw [upd_ne hne, p.2.2, given_all, ← hv, map_range_get vals .non (fun x => x), List.map_id']
end

section
variable {K : PySem.W.Frag} {σ : L2.St} {H H' : Hp} {ta tb te td tk tv : TE} {v : V} {P : VP}
theorem ev_ixTp {xs : List V} {i : Int} (h : EvX te σ H (Tp K xs)) (ha : atI xs i = some v) : Ev (tOp (rIxT K) te (tC (.int i))) σ H v := fun H1 e Q q =>
  h H1 e _ fun u H2 e2 hu => by
    obtain ⟨p, rfl, hp⟩ := hu
    exact rv_ixT hp ha H2 (Ex.refl _) Q fun H3 e3 => q H3 (e2.trans e3)
end

theorem getP_some {p : Pg} {n : Nm} (h : n ∈ p.map (·.1)) : ∃ s, getP p n = some s := by
  unfold getP
  cases c : p.find? fun e => decide (e.1 = n) with
  | some e => exact ⟨e.2, rfl⟩
  | none =>
    obtain ⟨e, he, h2⟩ := List.mem_map.mp h
    have := List.find?_eq_none.mp c e he
    simp [h2] at this
theorem putP_new {p : Pg} {n : Nm} {s : Int × Int} (h : n ∉ p.map (·.1)) : putP p n s = p ++ [(n, s)] := by
  unfold putP
  rw [if_neg]
  intro c
  obtain ⟨e, he, h2⟩ := List.any_eq_true.mp c
  exact h (List.mem_map.mpr ⟨e, he, of_decide_eq_true h2⟩)

--CUT nm
section
variable {P : Program} {w : World} {K : PySem.W.Frag} {mg : Str → Option Value} {base : Heap}
abbrev argsI : Int ⊕ (V × String) → List V := fun x => match x with | .inl w => [.int w] | .inr (v, _) => [v]
abbrev preI (K : PySem.W.Frag) : Int ⊕ (V × String) → Hp → Prop := fun x H => match x with | .inl _ => True | .inr (v, t) => TyX K H v (.type t) ∧ (t = "bool" ∨ kitB t "int" = some false)
abbrev postI : Int ⊕ (V × String) → Hp → VP := fun x _ => match x with | .inl _ => Is (.bl true) | .inr _ => Is (.bl false)
abbrev postA : Int ⊕ (V × String) → Hp → VP := fun x _ => match x with | .inl n => Is (.bl (decide (1 ≤ n) && decide (n ≤ 1000000000))) | .inr _ => Is (.bl false)
abbrev spWholeX (K : PySem.W.Frag) : Sp := SpF argsI (preI K) postI
abbrev spAmount (K : PySem.W.Frag) : Sp := SpF argsI (preI K) postA
theorem sv_wholeX {n : Int} {H : Hp} : SpV (spWholeX K) [.int n] H (.bl true) := sv_of (sx_of (α := Int ⊕ (V × String)) (args := argsI) (.inl n) (fun _ _ => trivial) fun _ _ _ _ _ h => h)
theorem sv_noWhole {v : V} {t : String} {H : Hp} (h : TyX K H v (.type t)) (ht : t = "bool" ∨ kitB t "int" = some false) : SpV (spWholeX K) [v] H (.bl false) := sv_of (sx_of (α := Int ⊕ (V × String)) (args := argsI) (.inr (v, t)) (fun _ e => ⟨tyx_mono e h, ht⟩) fun _ _ _ _ _ h => h)
theorem sv_amount {n : Int} {H : Hp} : SpV (spAmount K) [.int n] H (.bl (decide (1 ≤ n) && decide (n ≤ 1000000000))) := sv_of (sx_of (α := Int ⊕ (V × String)) (args := argsI) (.inl n) (fun _ _ => trivial) fun _ _ _ _ _ h => h)
theorem sv_noAmount {v : V} {t : String} {H : Hp} (h : TyX K H v (.type t)) (ht : t = "bool" ∨ kitB t "int" = some false) : SpV (spAmount K) [v] H (.bl false) := sv_of (sx_of (α := Int ⊕ (V × String)) (args := argsI) (.inr (v, t)) (fun _ e => ⟨tyx_mono e h, ht⟩) fun _ _ _ _ _ h => h)
theorem ok_is_whole (T : Txt K mg) : FnOk P w K mg base CX0 1 T.a_is_whole T.d_is_whole ["thing"] (spWholeX K) := by
  refine T.h_is_whole.F.ok sc_is_whole (fun vs H Q E h => ?_) (fun cdv A outer s H vs Q E hr h => ?_)
  · obtain ⟨x, rfl, _⟩ := h
    rcases x with x | ⟨x, t⟩ <;> rfl
  · obtain ⟨x, rfl, hp, k⟩ := h
    refine ⟨_, (pss_one (ps_ret (pe_and (pe_callB call_isi (by rfl) T.n_isinstance (by decide +kernel) (pa_cons (pv 0) (pa_cons (pe_bltn (v := .ty "int") (u := .type "int") (by rfl) T.n_int (by decide +kernel) rfl) pa_nil))) (pe_one (pe_not (pe_callB call_isi (by rfl) T.n_isinstance (by decide +kernel) (pa_cons (pv 0) (pa_cons (pe_bltn (v := .ty "bool") (u := .type "bool") (by rfl) T.n_bool (by decide +kernel) rfl) pa_nil)))))))), ?_⟩
    rcases x with x | ⟨v, t⟩
    · have hp := hp
      refine s_ret (by walk_at "ev") fun H3 e3 => ?_
      exact k _ _ (by walk_at "ex") rfl
    · have hp := hp
      obtain ⟨hp, rfl | ht⟩ := hp
      · refine s_ret (v := .bl (true && !true)) (ev_andV (ev_cb (ea_cons (ev_var rfl) (ea_cons ev_c ea_nil)) (rc_isi (fun H1 e1 => tyx_mono e1 hp) (by decide +kernel))) fun _ => ev_notV (ev_cb (ea_cons (ev_var rfl) (ea_cons ev_c ea_nil)) (rc_isi (fun H1 e1 => tyx_mono e1 hp) (by decide +kernel)))) fun H3 e3 => ?_
        exact k _ _ (by walk_at "ex") rfl
      · refine s_ret (v := .bl (false && false)) (ev_andV (ev_cb (ea_cons (ev_var rfl) (ea_cons ev_c ea_nil)) (rc_isi (fun H1 e1 => tyx_mono e1 hp) ht)) (fun h => by cases h)) fun H3 e3 => ?_
        exact k _ _ (by walk_at "ex") rfl
end

/-! ### names and amounts -/
def lowC (c : Nat) : Bool := decide (97 ≤ c) && decide (c ≤ 122)
def nameOk (w : Str) : Bool := (decide ((1 : Int) ≤ w.length) && decide ((w.length : Int) ≤ 8)) && w.cps.toList.all lowC
theorem low_lt (c : Nat) : (!decide ((Str.ofString "a").cps.toList > [c])) = decide (97 ≤ c) := by
  have e : (Str.ofString "a").cps.toList = [97] := by decide +kernel
  rw [e]
  by_cases h : 97 ≤ c
  · rw [decide_eq_true h]
    have : ¬ ([c] < [97]) := by
      intro z
      rcases List.cons_lt_cons_iff.mp z with z | z
      · omega
      · exact absurd z.2 (by simp)
    simpa using this
  · rw [decide_eq_false h]
    have : [c] < [97] := List.cons_lt_cons_iff.mpr (Or.inl (by omega))
    simpa using this
theorem low_gt (c : Nat) : (!decide ((Str.ofString "z").cps.toList < [c])) = decide (c ≤ 122) := by
  have e : (Str.ofString "z").cps.toList = [122] := by decide +kernel
  rw [e]
  by_cases h : c ≤ 122
  · rw [decide_eq_true h]
    have : ¬ ([122] < [c]) := by
      intro z
      rcases List.cons_lt_cons_iff.mp z with z | z
      · omega
      · exact absurd z.2 (by simp)
    simpa using this
  · rw [decide_eq_false h]
    have : [122] < [c] := List.cons_lt_cons_iff.mpr (Or.inl (by omega))
    simpa using this
section
variable {P : Program} {w : World} {K : PySem.W.Frag} {mg : Str → Option Value} {base : Heap}
abbrev argsN : Str ⊕ (V × String) → List V := fun x => match x with | .inl w => [.str w] | .inr (v, _) => [v]
abbrev preN (K : PySem.W.Frag) : Str ⊕ (V × String) → Hp → Prop := fun x H => match x with | .inl w => w.cps.toList.length ≤ 30000 | .inr (v, t) => TyX K H v (.type t) ∧ kitB t "str" = some false
abbrev postN : Str ⊕ (V × String) → Hp → VP := fun x _ => match x with | .inl w => Is (.bl (nameOk w)) | .inr _ => Is (.bl false)
abbrev spName (K : PySem.W.Frag) : Sp := SpF argsN (preN K) postN
theorem sv_name {s : Str} {H : Hp} (h : s.cps.toList.length ≤ 30000) : SpV (spName K) [.str s] H (.bl (nameOk s)) := sv_of (sx_of (α := Str ⊕ (V × String)) (args := argsN) (.inl s) (fun _ _ => h) fun _ _ _ _ _ h => h)
theorem sv_noName {v : V} {t : String} {H : Hp} (h : TyX K H v (.type t)) (ht : kitB t "str" = some false) : SpV (spName K) [v] H (.bl false) := sv_of (sx_of (α := Str ⊕ (V × String)) (args := argsN) (.inr (v, t)) (fun _ e => ⟨tyx_mono e h, ht⟩) fun _ _ _ _ _ h => h)
theorem ok_is_name (T : Txt K mg) : FnOk P w K mg base CX0 1 T.a_is_name T.d_is_name ["thing"] (spName K) := by
  refine T.h_is_name.F.ok sc_is_name (fun vs H Q E h => ?_) (fun cdv A outer s H vs Q E hr h => ?_)
  · obtain ⟨x, rfl, _⟩ := h
    rcases x with x | ⟨x, t⟩ <;> rfl
  · obtain ⟨x, rfl, hp, k⟩ := h
    refine ⟨_, (pss_cons (ps_if (PW.pt (pw_or (pt_not (pt_val (pe_callB call_isi (by rfl) T.n_isinstance (by decide +kernel) (pa_cons (pv 0) (pa_cons (pe_bltn (v := .ty "str") (u := .type "str") (by rfl) T.n_str (by decide +kernel) rfl) pa_nil))))) (pw_or1 (pt_not (pt_chain op_le op_le pe_int (pe_callB call_len_str (by rfl) T.n_len PySem.boot_len (pa_cons (pv 0) pa_nil)) (pe_glob rfl T.g_LONGEST_NAME.1 T.g_LONGEST_NAME.2)))))) (pss_one (ps_ret pe_bl)) pss_nil) (pss_one (ps_ret (pe_callB (cr_all rfl) (by rfl) T.n_all (by decide +kernel) (pa_cons (pe_lc (own := [("sign", 1)]) (by rfl) sc_is_name.nd (pi_str (pv 0)) (blkOk_by (own := [("sign", 1)]) (N := ["thing", "sign"]) (sc := defScope s_is_name) (by decide +kernel)) (fun _ _ _ _ _ => (pg_name (i := 1) sc_is_name.nd rfl (by first | exact Or.inl rfl | exact Or.inr rfl))) (fun _ _ _ _ _ => pts_nil) (fun _ _ _ _ _ => (pe_chain op_le_str op_le_str pe_str (pv 1) pe_str))) pa_nil))))), ?_⟩
    rcases x with x | ⟨v, t⟩
    · replace hp : x.cps.toList.length ≤ 30000 := hp
      have hp2 : x.length ≤ 100000 := by
        have : x.length = x.cps.toList.length := by show x.cps.size = _; simp
        omega
      refine q_when (by walk_at "ev") (fun hb H1 e1 => ?_) (fun hb H1 e1 => ?_)
      · refine s_ret ev_c fun H2 e2 => k _ _ (by walk_at "ex") ?_
        show _ = _
        unfold nameOk
        simp only [Bool.not_true, Bool.false_or, Bool.not_eq_true'] at hb
        rw [hb]
        rfl
      · refine s_ret (x_all (bs := x.cps.toList.map fun c => (!decide ((Str.ofString "a").cps.toList > [c])) && !decide ((Str.ofString "z").cps.toList < [c])) ?_) fun H2 e2 => k _ _ (by walk_at "ex") ?_
        · rw [List.map_map]
          refine el_lcS _ (ev_var rfl) (by omega) (fun _ => rfl) (fun i c H2 e2 hc => ?_)
          exact ev_chain ev_c (ev_var rfl) rv_leStr (fun _ => ev_c) (fun _ => rv_leStr)
        · show _ = _
          unfold nameOk
          simp only [Bool.not_true, Bool.false_or, Bool.not_eq_false'] at hb
          rw [hb, Bool.true_and, List.all_map]
          congr 2
          funext c
          show _ = lowC c
          unfold lowC
          rw [← low_lt, ← low_gt]
          rfl
    · replace hp : TyX K H v (.type t) ∧ kitB t "str" = some false := hp
      refine q_when (b := true) ?_ (fun hb H1 e1 => ?_) (fun hb H1 e1 => by cases hb)
      · exact et_or (a := true) (b := true) (et_not (a := false) (et_B (ev_cb (ea_cons (ev_var rfl) (ea_cons ev_c ea_nil)) (rc_isi (fun H1 e1 => tyx_mono e1 hp.1) hp.2)))) (fun h => by cases h)
      · exact s_ret ev_c fun H2 e2 => k _ _ (by walk_at "ex") rfl
end

def flat3 : V → Bool
  | .int _ => true | .bl _ => true | .str _ => true | .non => true
  | _ => false
def numOk : V → Bool
  | .int n => decide (0 ≤ n) && decide (n < 1000000000000000000000000000000000000000000000000000000000000)
  | _ => false
def shOk0 (xs : List V) : Bool := decide (xs.length = 2) && xs.all numOk
def intV : V → Bool
  | .int _ => true
  | _ => false
section
variable {P : Program} {w : World} {K : PySem.W.Frag} {mg : Str → Option Value} {base : Heap}
theorem sv_wholeV {v : V} {H : Hp} (h : flat3 v = true) : SpV (spWholeX K) [v] H (.bl (intV v)) := by
  cases v with
  | int n => exact sv_wholeX
  | bl b => exact sv_noWhole (t := "bool") (.base (.bl b)) (Or.inl rfl)
  | str s => exact sv_noWhole (t := "str") (.base (.str s)) (Or.inr (by decide +kernel))
  | non => exact sv_noWhole (t := "NoneType") (.base .non) (Or.inr (by decide +kernel))
  | _ => cases h
abbrev argsS : (Addr × List V) ⊕ (V × String) → List V := fun x => match x with | .inl (q, _) => [.ref q] | .inr (v, _) => [v]
abbrev preS (K : PySem.W.Frag) : (Addr × List V) ⊕ (V × String) → Hp → Prop := fun x H => match x with | .inl (q, xs) => SqT K H q xs ∧ xs.all flat3 = true ∧ xs.length ≤ 1000 | .inr (v, t) => TyX K H v (.type t) ∧ kitB t "tuple" = some false
abbrev postS : (Addr × List V) ⊕ (V × String) → Hp → VP := fun x _ => match x with | .inl (_, xs) => Is (.bl (shOk0 xs)) | .inr _ => Is (.bl false)
abbrev spIsShare (K : PySem.W.Frag) : Sp := SpF argsS (preS K) postS
theorem sv_isShare {q : Addr} {xs : List V} {H : Hp} (h : SqT K H q xs) (hf : xs.all flat3 = true) (hl : xs.length ≤ 1000) : SpV (spIsShare K) [.ref q] H (.bl (shOk0 xs)) := sv_of (sx_of (α := (Addr × List V) ⊕ (V × String)) (args := argsS) (.inl (q, xs)) (fun _ e => ⟨ex_t e h, hf, hl⟩) fun _ _ _ _ _ h => h)
theorem sv_noShare {v : V} {t : String} {H : Hp} (h : TyX K H v (.type t)) (ht : kitB t "tuple" = some false) : SpV (spIsShare K) [v] H (.bl false) := sv_of (sx_of (α := (Addr × List V) ⊕ (V × String)) (args := argsS) (.inr (v, t)) (fun _ e => ⟨tyx_mono e h, ht⟩) fun _ _ _ _ _ h => h)
theorem ok_is_share (T : Txt K mg) : FnOk P w K mg base CX0 2 T.a_is_share T.d_is_share ["thing"] (spIsShare K) := by
  refine T.h_is_share.F.ok sc_is_share (fun vs H Q E h => ?_) (fun cdv A outer s H vs Q E hr h => ?_)
  · obtain ⟨x, rfl, _⟩ := h
    rcases x with ⟨x, xs⟩ | ⟨x, t⟩ <;> rfl
  · obtain ⟨x, rfl, hp, k⟩ := h
    refine ⟨_, (pss_cons (ps_if (PW.pt (pw_or (pt_not (pt_val (pe_callB call_isi (by rfl) T.n_isinstance (by decide +kernel) (pa_cons (pv 0) (pa_cons (pe_bltn (v := .ty "tuple") (u := .type "tuple") (by rfl) T.n_tuple (by decide +kernel) rfl) pa_nil))))) (pw_or1 (pt_cmpR op_ne (pe_callB call_len_seq (by rfl) T.n_len PySem.boot_len (pa_cons (pv 0) pa_nil)) pe_int (nomark _))))) (pss_one (ps_ret pe_bl)) pss_nil) (pss_one (ps_ret (pe_callB (cr_all rfl) (by rfl) T.n_all (by decide +kernel) (pa_cons (pe_lc (own := [("number", 1)]) (by rfl) sc_is_share.nd (pi_tup (pv 0)) (blkOk_by (own := [("number", 1)]) (N := ["thing", "number"]) (sc := defScope s_is_share) (by decide +kernel)) (fun _ _ _ _ _ => (pg_name (i := 1) sc_is_share.nd rfl (by first | exact Or.inl rfl | exact Or.inr rfl))) (fun _ _ _ _ _ => pts_nil) (fun _ _ _ _ _ => (pe_and (pe_call (ok_is_whole T) (hr.mono (by decide)) rfl T.h_is_whole.m T.h_is_whole.F.kp T.h_is_whole.b .nil pass0 (pa_cons (pv 1) pa_nil)) (pe_one (pe_chain op_le op_lt pe_int (pv 1) (pe_glob rfl T.g_BEYOND.1 T.g_BEYOND.2)))))) pa_nil))))), ?_⟩
    rcases x with ⟨q, xs⟩ | ⟨v, t⟩
    · obtain ⟨hq, hf, hl⟩ := hp
      refine q_when (b := !true || !decide (V.int (xs.length : Int) = V.int 2)) (et_or (et_not (et_B (ev_cb (ea_cons (ev_var rfl) (ea_cons ev_c ea_nil)) (rc_isi (fun H1 e1 => tyx_tup (ex_t e1 hq)) (by decide +kernel))))) fun _ => et_test (ev_op (ev_cb (ea_cons (ev_var rfl) ea_nil) (rc_lenT hq)) ev_c (rv_ne rfl))) (fun hb H1 e1 => ?_) (fun hb H1 e1 => ?_)
      · refine s_ret ev_c fun H2 e2 => k _ _ (by walk_at "ex") ?_
        show _ = _
        have h2 : ¬ xs.length = 2 := by
          intro z
          rw [z] at hb
          exact absurd hb (by simp)
        unfold shOk0
        rw [decide_eq_false h2]
        rfl
      · have h2 : xs.length = 2 := by
          simp at hb
          omega
        refine s_ret (x_all (bs := xs.map numOk) ?_) fun H2 e2 => k _ _ (by walk_at "ex") ?_
        · rw [List.map_map]
          refine el_lcT _ (ev_var rfl) (ex_t e1 hq) (by omega) (fun _ => rfl) (fun x H2 e2 hx => ?_)
          have hfx : flat3 x = true := List.all_eq_true.mp hf x hx
          refine ev_is (v := .bl (intV x && numOk x)) (ev_andV (ev_call (ea_cons (ev_var rfl) ea_nil) (sv_wholeV hfx)) fun hi => ?_) ?_
          · cases x with
            | int n => exact ev_chain ev_c (ev_var rfl) rv_I0 (fun _ => ev_c) (fun _ => rv_I0)
            | _ => cases hi
          · cases x <;> rfl
        · show _ = _
          unfold shOk0
          rw [decide_eq_true h2, Bool.true_and, List.all_map]
          rfl
    · refine q_when (b := true) ?_ (fun hb H1 e1 => ?_) (fun hb H1 e1 => by cases hb)
      · exact et_or (a := true) (b := true) (et_not (a := false) (et_B (ev_cb (ea_cons (ev_var rfl) (ea_cons ev_c ea_nil)) (rc_isi (fun H1 e1 => tyx_mono e1 hp.1) hp.2)))) (fun h => by cases h)
      · exact s_ret ev_c fun H2 e2 => k _ _ (by walk_at "ex") rfl
end

def keyOk : Key → Bool
  | .inr w => nameOk w
  | .inl _ => false
def KeyLen : Key → Prop
  | .inr w => w.cps.toList.length ≤ 30000
  | .inl _ => True
theorem numOk_int {x : V} (h : numOk x = true) : ∃ n : Int, x = .int n := by
  cases x with
  | int n => exact ⟨n, rfl⟩
  | _ => cases h
/-- what stands as a share: whether it is one that a page may have -/
def ShAt (K : PySem.W.Frag) (H : Hp) (v : V) (b : Bool) : Prop :=
  (∃ q xs, v = .ref q ∧ SqT K H q xs ∧ xs.all flat3 = true ∧ xs.length ≤ 1000 ∧ b = (shOk0 xs && !decide (xs = [.int 0, .int 0]))) ∨ ∃ t, TyX K H v (.type t) ∧ kitB t "tuple" = some false ∧ b = false ∧ (flatB v = true ∨ ∃ a, v = .ref a)
theorem ShAt.mono {K : PySem.W.Frag} {H H' : Hp} {v : V} {b : Bool} (e : Ex H H') (h : ShAt K H v b) : ShAt K H' v b := by
  rcases h with ⟨q, xs, h1, h2, h3⟩ | ⟨t, h1, h2⟩
  · exact .inl ⟨q, xs, h1, ex_t e h2, h3⟩
  · exact .inr ⟨t, tyx_mono e h1, h2⟩
theorem ShAt.lock {K : PySem.W.Frag} {H : Hp} {v : V} {b : Bool} {d : Addr} {od : Obj} {kvs : List (Key × V)} (hd : H d = some (.dK kvs)) (h : ShAt K H v b) : ShAt K (upd H d (.frz od (.dK kvs))) v b := by
  rcases h with ⟨q, xs, h1, h2, h3⟩ | ⟨t, h1, h2⟩
  · exact .inl ⟨q, xs, h1, lock_t hd h2, h3⟩
  · exact .inr ⟨t, lock_ty hd h1, h2⟩
section
variable {K : PySem.W.Frag} {H : Hp} {x y : V}
def rLenD : List V → Hp → VK → Prop := fun xs H Q => ∃ (a : Addr) (kvs : List (Key × V)), xs = [V.ref a] ∧ H a = some (.dK kvs) ∧ Q (.int kvs.length) H
theorem rc_lenD {a : Addr} {kvs : List (Key × V)} (h : H a = some (.dK kvs)) : RC rLenD [.ref a] H (.int (kvs.length : Int)) := fun H1 e _ q => ⟨a, kvs, rfl, e _ _ h, q H1 (Ex.refl H1)⟩
end
section
variable {P : Program} {w : World} {K : PySem.W.Frag} {mg : Str → Option Value} {base : Heap}
abbrev spEntry (K : PySem.W.Frag) : Sp := SpF (fun x : Key × V × Bool => [kV x.1, x.2.1]) (fun x H => KeyLen x.1 ∧ ShAt K H x.2.1 x.2.2) (fun x _ => Is (.bl (keyOk x.1 && x.2.2)))
theorem sv_entry {k : Key} {v : V} {b : Bool} {H : Hp} (hk : KeyLen k) (h : ShAt K H v b) : SpV (spEntry K) [kV k, v] H (.bl (keyOk k && b)) := sv_of (sx_of (k, v, b) (fun _ e => ⟨hk, h.mono e⟩) fun _ _ _ _ _ h => h)
theorem ok_is_entry (T : Txt K mg) : FnOk P w K mg base CX0 3 T.a_is_entry T.d_is_entry ["name", "share"] (spEntry K) := by
  refine T.h_is_entry.F.ok sc_is_entry (fun vs H Q E h => ?_) (fun cdv A outer s H vs Q E hr h => ?_)
  · obtain ⟨x, rfl, _⟩ := h
    rfl
  · obtain ⟨⟨key, v, b⟩, rfl, ⟨hk, hs⟩, k⟩ := h
    simp only at hk hs k
    refine ⟨_, (pss_one (ps_ret (pe_and (pe_call (ok_is_name T) (hr.mono (by decide)) rfl T.h_is_name.m T.h_is_name.F.kp T.h_is_name.b .nil pass0 (pa_cons (pv 0) pa_nil)) (pe_and (pe_call (ok_is_share T) (hr.mono (by decide)) rfl T.h_is_share.m T.h_is_share.F.kp T.h_is_share.b .nil pass0 (pa_cons (pv 1) pa_nil)) (pe_one (pe_cmpR (op_neD hr.units) (pv 1) (pe_glob rfl T.g_NOTHING.1 T.g_NOTHING.2) (nomark _))))))), ?_⟩
    have hz := T.t_NOTHING
    have hn : Ev (tCall (spName K) [] E0 (tCons (tVar 0) tNil)) (L2.start ["name", "share"] [kV key, v]) H (.bl (keyOk key)) := by
      cases key with
      | inl i => exact ev_call (ea_cons (ev_var rfl) ea_nil) (sv_noName (t := "int") (.base (.int i)) (by decide +kernel))
      | inr s => exact ev_call (ea_cons (ev_var rfl) ea_nil) (sv_name hk)
    rcases hs with ⟨q, xs, rfl, hq, hf, hl, rfl⟩ | ⟨t, hty, ht, rfl, _⟩
    · refine s_ret (v := .bl (keyOk key && (shOk0 xs && !decide (xs = [.int 0, .int 0])))) (ev_andV hn fun _ => ?_) fun H1 e1 => k _ _ e1 rfl
      refine ev_andV (ev_call (ea_cons (ev_var rfl) ea_nil) (sv_isShare hq hf hl)) fun h2 => ?_
      have hx : ∃ a b : Int, xs = [.int a, .int b] := by
        unfold shOk0 at h2
        rw [Bool.and_eq_true] at h2
        have h3 := of_decide_eq_true h2.1
        have h4 := h2.2
        match xs, h3, h4 with
        | [x, y], _, h4 =>
          simp only [List.all_cons, List.all_nil, Bool.and_true, Bool.and_eq_true] at h4
          obtain ⟨a, rfl⟩ := numOk_int h4.1
          obtain ⟨b, rfl⟩ := numOk_int h4.2
          exact ⟨_, _, rfl⟩
      obtain ⟨a, b, rfl⟩ := hx
      refine ev_is (ev_op (ev_var rfl) ev_c (rv_neD (fun H1 e1 => dp_two (ex_t e1 hq)) (fun H1 e1 => dp_two (hz H1)) (shaped_two _ _) (shaped_two _ _))) ?_
      rw [eqv_two]
      congr 2
      by_cases h5 : a = 0
      · by_cases h6 : b = 0
        · rw [h5, h6]
          simp
        · simp [h6]
      · simp [h5]
    · refine s_ret (v := .bl (keyOk key && false)) (ev_andV hn fun _ => ?_) fun H1 e1 => k _ _ e1 rfl
      exact ev_is (v := .bl (false && false)) (ev_andV (ev_call (ea_cons (ev_var rfl) ea_nil) (sv_noShare hty ht)) fun h => by cases h) rfl
abbrev argsP : (Addr × List (Key × V × Bool)) ⊕ (V × String) → List V := fun x => match x with | .inl (d, _) => [.ref d] | .inr (v, _) => [v]
abbrev preP (K : PySem.W.Frag) : (Addr × List (Key × V × Bool)) ⊕ (V × String) → Hp → Prop := fun x H => match x with
  | .inl (d, es) => H d = some (.dK (es.map fun e => (e.1, e.2.1))) ∧ es.length ≤ 30000 ∧ ∀ e ∈ es, KeyLen e.1 ∧ ShAt K H e.2.1 e.2.2
  | .inr (v, t) => TyX K H v (.type t) ∧ kitB t "dict" = some false
def pageB (es : List (Key × V × Bool)) : Bool := decide (es.length ≤ 200) && es.all fun e => keyOk e.1 && e.2.2
abbrev postP : (Addr × List (Key × V × Bool)) ⊕ (V × String) → Hp → VP := fun x _ => match x with | .inl (_, es) => Is (.bl (pageB es)) | .inr _ => Is (.bl false)
abbrev spIsPage (K : PySem.W.Frag) : Sp := SpF argsP (preP K) postP
theorem ShAt.plain {K : PySem.W.Frag} {H : Hp} {v : V} {b : Bool} (h : ShAt K H v b) : flatB v = true ∨ ∃ a, v = .ref a := by
  rcases h with ⟨q, xs, h, _⟩ | ⟨t, _, _, _, h⟩
  · exact .inr ⟨q, h⟩
  · exact h
theorem sx_isPage {d : Addr} {es : List (Key × V × Bool)} {H : Hp} (hd : H d = some (.dK (es.map fun e => (e.1, e.2.1)))) (hl : es.length ≤ 30000) (he : ∀ e ∈ es, KeyLen e.1 ∧ ShAt K H e.2.1 e.2.2) : SpX (spIsPage K) [.ref d] H (Is (.bl (pageB es))) :=
  sx_of (α := (Addr × List (Key × V × Bool)) ⊕ (V × String)) (args := argsP) (.inl (d, es)) (fun _ e => ⟨e _ _ hd, hl, fun x hx => ⟨(he x hx).1, (he x hx).2.mono e⟩⟩) fun _ _ _ _ _ h => h
theorem sv_isPage {d : Addr} {es : List (Key × V × Bool)} {H : Hp} (hd : H d = some (.dK (es.map fun e => (e.1, e.2.1)))) (hl : es.length ≤ 30000) (he : ∀ e ∈ es, KeyLen e.1 ∧ ShAt K H e.2.1 e.2.2) : SpV (spIsPage K) [.ref d] H (.bl (pageB es)) :=
  sv_of (sx_of (α := (Addr × List (Key × V × Bool)) ⊕ (V × String)) (args := argsP) (.inl (d, es)) (fun _ e => ⟨e _ _ hd, hl, fun x hx => ⟨(he x hx).1, (he x hx).2.mono e⟩⟩) fun _ _ _ _ _ h => h)
theorem sv_noPage {v : V} {t : String} {H : Hp} (h : TyX K H v (.type t)) (ht : kitB t "dict" = some false) : SpV (spIsPage K) [v] H (.bl false) := sv_of (sx_of (α := (Addr × List (Key × V × Bool)) ⊕ (V × String)) (args := argsP) (.inr (v, t)) (fun _ e => ⟨tyx_mono e h, ht⟩) fun _ _ _ _ _ h => h)
theorem ok_is_page (T : Txt K mg) : FnOk P w K mg base CX0 4 T.a_is_page T.d_is_page ["thing"] (spIsPage K) := by
  refine T.h_is_page.F.ok sc_is_page (fun vs H Q E h => ?_) (fun cdv A outer s H vs Q E hr h => ?_)
  · obtain ⟨x, rfl, _⟩ := h
    rcases x with ⟨x, xs⟩ | ⟨x, t⟩ <;> rfl
  · obtain ⟨x, rfl, hp, k⟩ := h
    refine ⟨_, (pss_cons (ps_if (PW.pt (pw_or (pt_not (pt_val (pe_callB call_isi (by rfl) T.n_isinstance (by decide +kernel) (pa_cons (pv 0) (pa_cons (pe_bltn (v := .ty "dict") (u := .type "dict") (by rfl) T.n_dict (by decide +kernel) rfl) pa_nil))))) (pw_or1 (pt_cmpR op_gt (pe_callB call_lenD (by rfl) T.n_len PySem.boot_len (pa_cons (pv 0) pa_nil)) (pe_glob rfl T.g_MOST_NAMES.1 T.g_MOST_NAMES.2) (nomark _))))) (pss_one (ps_ret pe_bl)) pss_nil) (pss_one (ps_ret (pe_callB (cr_all rfl) (by rfl) T.n_all (by decide +kernel) (pa_cons (pe_lock (pe_lc (own := [("name", 1), ("share", 2)]) (by rfl) sc_is_page.nd (pi_items (pv 0)) (blkOk_by (own := [("name", 1), ("share", 2)]) (N := ["thing", "name", "share"]) (sc := defScope s_is_page) (by decide +kernel)) (fun _ _ _ _ _ => (pg_tupK (K := K) (n := 2) rfl rfl (pgs_cons (pg_name (i := 1) sc_is_page.nd rfl (by first | exact Or.inl rfl | exact Or.inr rfl)) (pgs_cons (pg_name (i := 2) sc_is_page.nd rfl (by first | exact Or.inl rfl | exact Or.inr rfl)) pgs_nil)) rfl rfl)) (fun _ _ _ _ _ => pts_nil) (fun _ _ _ _ _ => (pe_call (ok_is_entry T) (hr.mono (by decide)) rfl T.h_is_entry.m T.h_is_entry.F.kp T.h_is_entry.b .nil pass0 (pa_cons (pv 1) (pa_cons (pv 2) pa_nil)))))) pa_nil))))), ?_⟩
    rcases x with ⟨d, es⟩ | ⟨v, t⟩
    · obtain ⟨hd, hl, he⟩ := hp
      refine q_when (b := !true || decide ((200 : Int) < (es.length : Int))) (et_or (et_not (et_B (ev_cb (ea_cons (ev_var rfl) (ea_cons ev_c ea_nil)) (rc_isi (a := "dict") (fun H1 e1 => .base (.dK (e1 _ _ hd))) (by decide +kernel))))) fun _ => et_test (ev_op (ev_is (ev_cb (ea_cons (ev_var rfl) ea_nil) (rc_lenD hd)) (by rw [List.length_map])) ev_c rv_I0)) (fun hb H1 e1 => ?_) (fun hb H1 e1 => ?_)
      · refine s_ret ev_c fun H2 e2 => k _ _ (by walk_at "ex") ?_
        show _ = _
        have h2 : ¬ es.length ≤ 200 := by
          intro z
          simp at hb
          omega
        unfold pageB
        rw [decide_eq_false h2]
        rfl
      · have h2 : es.length ≤ 200 := by
          simp at hb
          omega
        have hd1 := e1 _ _ hd
        refine s_ret (x_all (bs := es.map fun e => keyOk e.1 && e.2.2) ?_) fun H2 e2 => k _ _ (by walk_at "ex") ?_
        · have hlk : ∀ e ∈ es, ∀ od, KeyLen e.1 ∧ ShAt K (upd H1 d (.frz od (.dK (es.map fun e => (e.1, e.2.1))))) e.2.1 e.2.2 := fun e h od => ⟨(he e h).1, ((he e h).2.mono e1).lock hd1⟩
          refine el_lockItems ((es.map fun e => keyOk e.1 && e.2.2).map V.bl) ?hv hd1 ?h ?hn ?hz ?hw ?_
          case hv => simp
          case h => intro H'; exact ev_var rfl
          case hn => rfl
          case hz => rw [List.length_map]; exact hl
          case hw => intro _ _; rfl
          intro m kv u hkv hu od H3 e3
          rw [List.getElem?_map] at hkv
          rw [List.getElem?_map, List.getElem?_map] at hu
          cases hem : es[m]? with
          | none =>
            rw [hem] at hkv
            cases hkv
          | some e =>
            rw [hem] at hkv hu
            obtain rfl := Option.some.inj hkv
            obtain rfl := Option.some.inj hu
            have hm := List.mem_of_getElem? hem
            exact ev_call (ea_cons (ev_var rfl) (ea_cons (ev_var rfl) ea_nil)) (sv_entry (hlk e hm od).1 ((hlk e hm od).2.mono e3))
        · show _ = _
          unfold pageB
          rw [decide_eq_true h2, Bool.true_and, List.all_map]
          rfl
    · refine q_when (b := true) ?_ (fun hb H1 e1 => ?_) (fun hb H1 e1 => by cases hb)
      · exact et_or (a := true) (b := true) (et_not (a := false) (et_B (ev_cb (ea_cons (ev_var rfl) (ea_cons ev_c ea_nil)) (rc_isi (fun H1 e1 => tyx_mono e1 hp.1) hp.2)))) (fun h => by cases h)
      · exact s_ret ev_c fun H2 e2 => k _ _ (by walk_at "ex") rfl
end

--CUT kind
/-! ### which error it was -/
def kl (b : Bool) (z : Str) : List V := if b = true then [.str z] else []
def kdW (b1 b2 b3 b4 b5 : Bool) : List V := (((([] ++ kl b1 "name") ++ kl b2 "amount") ++ kl b3 "page") ++ kl b4 "forged") ++ kl b5 "note"
def spKind (K : PySem.W.Frag) (c1 c2 c3 c4 c5 : Addr) : Addr → Value → Option Addr → Sp := fun a cls d vs H Q _ => vs = [.ref a] ∧ ∃ (D : Addr) (z : Str) (b1 b2 b3 b4 b5 : Bool), cls = .ref D ∧ d = none ∧ ExcC K D ∧
  PySem.W.kitOne K (.ref D) (.ref c1) = some b1 ∧ PySem.W.kitOne K (.ref D) (.ref c2) = some b2 ∧ PySem.W.kitOne K (.ref D) (.ref c3) = some b3 ∧ PySem.W.kitOne K (.ref D) (.ref c4) = some b4 ∧ PySem.W.kitOne K (.ref D) (.ref c5) = some b5 ∧
  PySem.W.kitOne K (.ref D) (.type "ValueError") = some true ∧ kdW b1 b2 b3 b4 b5 = [.str z] ∧ Ret (Is (.str z)) H Q
section
variable {K : PySem.W.Frag} {σ : L2.St} {H H0 : Hp} {tis te : TE} {D : Ends} {tz : TS} {b : Bool} {l : Addr} {ws : List V} {z : Str}
theorem q_kindIf (h : Ev tis σ H (.bl b)) (hs : σ[1]? = some (some (.ref l))) (h0 : H0 l = none) (e0 : Ex H0 H) (hl : H l = some (.lst ws)) (hw : ws.length < 1000) (k : ∀ H1, Ex H0 H1 → H1 l = some (.lst (ws ++ kl b z)) → tz D σ H1) :
    tSeq (tIfS (tB tis) (tDrop (tBM K "list" rAppend (tVar 1) (tCons (tC (.str z)) tNil))) tNext) tz D σ H := by
  refine q_when (et_B h) (fun hb H1 e1 => ?_) (fun hb H1 e1 => ?_)
  · refine s_app (e1 _ _ hl) (ev_var hs) ev_c (by omega) fun H2 e2 => ?_
    refine k _ (Ex.mut (e0.trans (e1.trans e2)) h0) ?_
    rw [upd_same, hb]
    rfl
  · refine k H1 (e0.trans e1) ?_
    rw [e1 _ _ hl, hb]
    show _ = some (HO.lst (ws ++ []))
    rw [List.append_nil]
theorem ev_isP {E a : Addr} {v : V} {cv : Value} (h0 : σ[0]? = some (some (.ref a))) (hv : ∀ u, RelV v u → u = cv) (hk : PySem.W.kitOne K (.ref E) cv = some b) : Ev (tCB (rIsE K E a) (tCons (tVar 0) (tCons (tC v) tNil))) σ H (.bl b) := fun H1 _ _ q =>
  ⟨.ref a, h0, v, cv, b, rfl, hv, hk, q H1 (Ex.refl H1)⟩
theorem kl_len (b : Bool) (z : Str) : (kl b z).length ≤ 1 := by
  cases b
  · exact Nat.zero_le _
  · exact Nat.le_refl 1
theorem ev_kind {c1 c2 c3 c4 c5 a E : Addr} {z : Str} {b1 b2 b3 b4 b5 : Bool} (h : Ev te σ H (.ref a)) (hC : ExcC K E) (k1 : PySem.W.kitOne K (.ref E) (.ref c1) = some b1) (k2 : PySem.W.kitOne K (.ref E) (.ref c2) = some b2) (k3 : PySem.W.kitOne K (.ref E) (.ref c3) = some b3)
    (k4 : PySem.W.kitOne K (.ref E) (.ref c4) = some b4) (k5 : PySem.W.kitOne K (.ref E) (.ref c5) = some b5) (kv : PySem.W.kitOne K (.ref E) (.type "ValueError") = some true) (hw : kdW b1 b2 b3 b4 b5 = [.str z]) :
    Ev (tCall (spKind K c1 c2 c3 c4 c5 a (.ref E) none) [] E0 (tCons te tNil)) σ H (.str z) := fun H1 e Q q =>
  h H1 e _ fun H2 e2 => ⟨rfl, E, z, b1, b2, b3, b4, b5, rfl, rfl, hC, k1, k2, k3, k4, k5, kv, hw, fun v H3 e3 hv => by
    obtain rfl : v = .str z := hv
    exact q H3 (e2.trans e3)⟩
end
section
variable {P : Program} {w : World} {K : PySem.W.Frag} {mg : Str → Option Value} {base : Heap}
theorem fp_law_kind (T : Txt K mg) : FnP P w K mg base 1 T.a_law_kind T.d_law_kind ["_law_error"] (spKind K T.c_NoName T.c_NoAmount T.c_NoPage T.c_Forged T.c_NoNote) := by
  refine fun_okP T.h_law_kind.F sc_law_kind (fun a cls d vs H Q E h => ?_) (fun cdv A outer s H vs Q E p cls d hr hz hf h => ?_)
  · obtain ⟨rfl, _⟩ := h
    rfl
  · obtain ⟨rfl, D, z, b1, b2, b3, b4, b5, rfl, rfl, hC, k1, k2, k3, k4, k5, kv, hw, k⟩ := h
    refine ⟨_, (pss_cons (ps_set (i := 1) sc_law_kind.nd rfl (by first | exact Or.inl rfl | exact Or.inr rfl) (pe_lst pa_nil)) (pss_cons (ps_if (pt_val (pe_callB (call_isP (a := p.1) (oe := p.2) (List.mem_singleton.mpr rfl) hC hz hf) (by rfl) T.n_isinstance (by decide +kernel) (pa_cons (pv 0) (pa_cons (pe_glob (v := .ref T.c_NoName) rfl T.x_NoName.g rfl) pa_nil)))) (pss_one (ps_expr (pe_bm PySem.F.plainAttrs_list PySem.F.slot_list_append PySem.F.type_list_append mt_append (pv 1) (pa_cons pe_str pa_nil)))) pss_nil) (pss_cons (ps_if (pt_val (pe_callB (call_isP (a := p.1) (oe := p.2) (List.mem_singleton.mpr rfl) hC hz hf) (by rfl) T.n_isinstance (by decide +kernel) (pa_cons (pv 0) (pa_cons (pe_glob (v := .ref T.c_NoAmount) rfl T.x_NoAmount.g rfl) pa_nil)))) (pss_one (ps_expr (pe_bm PySem.F.plainAttrs_list PySem.F.slot_list_append PySem.F.type_list_append mt_append (pv 1) (pa_cons pe_str pa_nil)))) pss_nil) (pss_cons (ps_if (pt_val (pe_callB (call_isP (a := p.1) (oe := p.2) (List.mem_singleton.mpr rfl) hC hz hf) (by rfl) T.n_isinstance (by decide +kernel) (pa_cons (pv 0) (pa_cons (pe_glob (v := .ref T.c_NoPage) rfl T.x_NoPage.g rfl) pa_nil)))) (pss_one (ps_expr (pe_bm PySem.F.plainAttrs_list PySem.F.slot_list_append PySem.F.type_list_append mt_append (pv 1) (pa_cons pe_str pa_nil)))) pss_nil) (pss_cons (ps_if (pt_val (pe_callB (call_isP (a := p.1) (oe := p.2) (List.mem_singleton.mpr rfl) hC hz hf) (by rfl) T.n_isinstance (by decide +kernel) (pa_cons (pv 0) (pa_cons (pe_glob (v := .ref T.c_Forged) rfl T.x_Forged.g rfl) pa_nil)))) (pss_one (ps_expr (pe_bm PySem.F.plainAttrs_list PySem.F.slot_list_append PySem.F.type_list_append mt_append (pv 1) (pa_cons pe_str pa_nil)))) pss_nil) (pss_cons (ps_if (pt_val (pe_callB (call_isP (a := p.1) (oe := p.2) (List.mem_singleton.mpr rfl) hC hz hf) (by rfl) T.n_isinstance (by decide +kernel) (pa_cons (pv 0) (pa_cons (pe_glob (v := .ref T.c_NoNote) rfl T.x_NoNote.g rfl) pa_nil)))) (pss_one (ps_expr (pe_bm PySem.F.plainAttrs_list PySem.F.slot_list_append PySem.F.type_list_append mt_append (pv 1) (pa_cons pe_str pa_nil)))) pss_nil) (pss_cons (ps_if (PW.pt (pw_or (pt_cmpR op_ne (pe_callB call_len_seq (by rfl) T.n_len PySem.boot_len (pa_cons (pv 1) pa_nil)) pe_int (nomark _)) (pw_or1 (pt_not (pt_val (pe_callB (call_isP (a := p.1) (oe := p.2) (List.mem_singleton.mpr rfl) hC hz hf) (by rfl) T.n_isinstance (by decide +kernel) (pa_cons (pv 0) (pa_cons (pe_bltn (v := .ty "ValueError") (u := .type "ValueError") (by rfl) T.n_ValueError (by decide +kernel) rfl) pa_nil)))))))) (pss_one (ps_ret pe_str)) pss_nil) (pss_one (ps_ret (pe_ix ix_list (pv 1) pe_int (fun _ _ => rfl))))))))))), ?_⟩
    have l1 := kl_len b1 "name"
    have l2 := kl_len b2 "amount"
    have l3 := kl_len b3 "page"
    have l4 := kl_len b4 "forged"
    refine q_asgL (el_lst ea_nil (by decide)) fun l H1 hl0 e1 hl1 => ?_
    refine q_kindIf (b := b1) (ev_isP rfl (fun _ h => h) k1) rfl hl0 e1 hl1 (by decide) fun H2 e2 hl2 => ?_
    refine q_kindIf (b := b2) (ev_isP rfl (fun _ h => h) k2) rfl hl0 e2 hl2 (by simp only [List.length_append, List.length_nil]; omega) fun H3 e3 hl3 => ?_
    refine q_kindIf (b := b3) (ev_isP rfl (fun _ h => h) k3) rfl hl0 e3 hl3 (by simp only [List.length_append, List.length_nil]; omega) fun H4 e4 hl4 => ?_
    refine q_kindIf (b := b4) (ev_isP rfl (fun _ h => h) k4) rfl hl0 e4 hl4 (by simp only [List.length_append, List.length_nil]; omega) fun H5 e5 hl5 => ?_
    refine q_kindIf (b := b5) (ev_isP rfl (fun _ h => h) k5) rfl hl0 e5 hl5 (by simp only [List.length_append, List.length_nil]; omega) fun H6 e6 hl6 => ?_
    replace hl6 : H6 l = some (.lst (kdW b1 b2 b3 b4 b5)) := hl6
    rw [hw] at hl6
    refine q_when (b := !decide (V.int 1 = V.int 1) || !true) (et_or (et_test (ev_op (ev_len (ev_var rfl) (sq_of hl6)) ev_c (rv_ne rfl))) fun _ => et_not (et_B (ev_isP rfl (fun _ h => h) kv))) (fun hb _ _ => by simp at hb) (fun _ H7 e7 => ?_)
    exact s_ret (v := .str z) (ev_op (ev_var rfl) ev_c (rv_ixL (sq_of (e7 _ _ hl6)) rfl)) fun H8 e8 => k _ _ ((e6.trans e7).trans e8) rfl
end

--CUT lw
section
variable {P : Program} {w : World} {K : PySem.W.Frag} {mg : Str → Option Value} {base : Heap}
abbrev spWhole : Sp := SpF (fun c : Int => [.int c]) (fun _ _ => True) (fun c _ => Is (.bl true))
theorem sv_whole {c : Int} {H : Hp} : SpV spWhole [.int c] H (.bl true) := sv_of (sx_of c (fun _ _ => trivial) fun _ _ _ _ _ h => h)
theorem ok_law_whole (T : Txt K mg) : FnOk P w K mg base CX0 1 T.a_law_whole T.d_law_whole ["_law_found"] spWhole := by
  refine T.h_law_whole.F.ok sc_law_whole (fun vs H Q E h => ?_) (fun cdv A outer s H vs Q E hr h => ?_)
  · obtain ⟨c, rfl, _⟩ := h
    rfl
  · obtain ⟨c, rfl, _, k⟩ := h
    refine ⟨_, (pss_one (ps_ret (pe_and (pe_callB call_isi (by rfl) T.n_isinstance (by decide +kernel) (pa_cons (pv 0) (pa_cons (pe_bltn (v := .ty "int") (u := .type "int") (by rfl) T.n_int (by decide +kernel) rfl) pa_nil))) (pe_one (pe_not (pe_callB call_isi (by rfl) T.n_isinstance (by decide +kernel) (pa_cons (pv 0) (pa_cons (pe_bltn (v := .ty "bool") (u := .type "bool") (by rfl) T.n_bool (by decide +kernel) rfl) pa_nil)))))))), ?_⟩
    refine s_ret (by walk_at "ev") fun H3 e3 => ?_
    exact k _ _ (by walk_at "ex") rfl

end
local macro_rules | `(tactic| walk_at "sv") => `(tactic| exact sv_whole)

section
variable {P : Program} {w : World} {K : PySem.W.Frag} {mg : Str → Option Value} {base : Heap}
abbrev spShare (K : PySem.W.Frag) : Sp := SpF (fun x : (Addr × Addr) × (Int × Int) × Int × Int => [.ref x.1.1, .ref x.1.2]) (fun x H => SqT K H x.1.1 [.int x.2.1.1, .int x.2.1.2] ∧ SqT K H x.1.2 [.int x.2.2.1, .int x.2.2.2]) (fun x _ => Is (.bl (decide (x.2.1 = x.2.2))))
theorem ok_law_share (T : Txt K mg) : FnOk P w K mg base CX0 2 T.a_law_share T.d_law_share ["_law_found", "_law_due_here"] (spShare K) := by
  refine T.h_law_share.F.ok sc_law_share (fun vs H Q E h => ?_) (fun cdv A outer s H vs Q E hr h => ?_)
  · obtain ⟨c, rfl, _⟩ := h
    rfl
  · obtain ⟨⟨⟨p, q⟩, ⟨a, b⟩, c, d⟩, rfl, ⟨hp, hq⟩, k⟩ := h
    simp only at hp hq k
    refine ⟨_, (pss_cons (ps_if (PW.pt (pw_or (pt_not (pt_val (pe_callB call_isi (by rfl) T.n_isinstance (by decide +kernel) (pa_cons (pv 0) (pa_cons (pe_bltn (v := .ty "tuple") (u := .type "tuple") (by rfl) T.n_tuple (by decide +kernel) rfl) pa_nil))))) (pw_or1 (pt_cmpR op_ne (pe_callB call_len_seq (by rfl) T.n_len PySem.boot_len (pa_cons (pv 0) pa_nil)) pe_int (nomark _))))) (pss_one (ps_ret pe_bl)) pss_nil) (pss_one (ps_ret (pe_and (pe_call (ok_law_whole T) (hr.mono (by decide)) rfl T.h_law_whole.m T.h_law_whole.F.kp T.h_law_whole.b .nil pass0 (pa_cons (pe_ix ix_tup (pv 0) pe_int (fun _ _ => rfl)) pa_nil)) (pe_and (pe_call (ok_law_whole T) (hr.mono (by decide)) rfl T.h_law_whole.m T.h_law_whole.F.kp T.h_law_whole.b .nil pass0 (pa_cons (pe_ix ix_tup (pv 0) pe_int (fun _ _ => rfl)) pa_nil)) (pe_and (pe_cmpR op_eq (pe_ix ix_tup (pv 0) pe_int (fun _ _ => rfl)) (pe_ix ix_tup (pv 1) pe_int (fun _ _ => rfl)) (nomark _)) (pe_one (pe_cmpR op_eq (pe_ix ix_tup (pv 0) pe_int (fun _ _ => rfl)) (pe_ix ix_tup (pv 1) pe_int (fun _ _ => rfl)) (nomark _))))))))), ?_⟩
    refine q_when (by walk_at "ev") (fun hb H2 e2 => ?_) (fun hb H2 e2 => ?_)
    · exact absurd hb (by simp)
    · refine s_ret (by walk_at "ev") fun H3 e3 => k _ _ (by walk_at "ex") ?_
      show _ = _
      by_cases h1 : a = c
      · by_cases h2 : b = d
        · subst h1 h2
          simp
        · simp [h2]
      · simp [h1]
theorem x_share {σ : L2.St} {H : Hp} {ta tb : TE} {E : XK} {a b c d : Int} (h1 : EvX ta σ H (Tp K [.int a, .int b])) (h2 : EvX tb σ H (Tp K [.int c, .int d])) :
    Ev (tCall (spShare K) [] E (tCons ta (tCons tb tNil))) σ H (.bl (decide ((a, b) = (c, d)))) := ev_x (x_call2 h1 h2 (by
  rintro _ _ H1 e ⟨p, rfl, hp⟩ ⟨q, rfl, hq⟩
  exact sx_of ((p, q), (a, b), c, d) (fun H2 e2 => ⟨ex_t e2 hp, ex_t e2 hq⟩) fun _ _ _ _ _ h => h))
end
local macro_rules | `(tactic| walk_at "xc") => `(tactic| ((with_reducible apply x_share); (focus (walk_at "xv")); (focus (walk_at "xv"))))

--CUT num
open PySem.W TL in
theorem num_open : True := trivial
section
open PySem.W TL
theorem revInd {P : List Nat → Prop} (h0 : P []) (h1 : ∀ e c, P e → P (e ++ [c])) : ∀ d, P d := by
  have : ∀ n (d : List Nat), d.length = n → P d := by
    intro n
    induction n with
    | zero =>
      intro d hd
      rw [List.length_eq_zero_iff.mp hd]
      exact h0
    | succ n ih =>
      intro d hd
      have hne : d ≠ [] := fun z => by rw [z] at hd; cases hd
      rw [← List.dropLast_concat_getLast hne]
      exact h1 _ _ (ih _ (by rw [List.length_dropLast, hd]; rfl))
  exact fun d => this _ d rfl
theorem val_snoc (e : List Nat) (c : Nat) : NumText.digitsVal (e ++ [c]) = NumText.digitsVal e * 10 + (c - 48) := by
  unfold NumText.digitsVal
  rw [List.foldl_append]
  rfl
theorem val_pos : ∀ {d : List Nat}, NumText.AllDigits d → d ≠ [] → d.head? ≠ some 48 → 1 ≤ NumText.digitsVal d := by
  intro d
  induction d using revInd with
  | h0 => intro _ h; exact absurd rfl h
  | h1 e c ih =>
    intro h _ hz
    rw [val_snoc]
    by_cases he : e = []
    · subst he
      have hc := h c (by simp)
      have : c ≠ 48 := fun z => hz (by rw [z]; rfl)
      omega
    · have := ih (fun x hx => h x (List.mem_append_left _ hx)) he (fun z => hz (by rw [List.head?_append, z]; rfl))
      omega
theorem numL_canon : ∀ {d : List Nat}, NumText.AllDigits d → d ≠ [] → (d.length = 1 ∨ d.head? ≠ some 48) → numL (NumText.digitsVal d) = d := by
  intro d
  induction d using revInd with
  | h0 => intro _ h; exact absurd rfl h
  | h1 e c ih =>
    intro h _ hz
    have hc := h c (by simp)
    rw [val_snoc]
    by_cases he : e = []
    · subst he
      have h0 : NumText.digitsVal [] = 0 := rfl
      rw [h0, numL_lt (by omega)]
      show [_] = [c]
      congr 1
      omega
    · have hd : NumText.AllDigits e := fun x hx => h x (List.mem_append_left _ hx)
      have hh : e.head? ≠ some 48 := by
        rcases hz with hz | hz
        · have : 0 < e.length := List.length_pos_iff.mpr he
          rw [List.length_append] at hz
          simp at hz
          exact absurd hz he
        · intro z
          exact hz (by rw [List.head?_append, z]; rfl)
      have hp := val_pos hd he hh
      rw [numL_step (by omega)]
      have e1 : (NumText.digitsVal e * 10 + (c - 48)) / 10 = NumText.digitsVal e := by omega
      have e2 : (NumText.digitsVal e * 10 + (c - 48)) % 10 = c - 48 := by omega
      rw [e1, e2, ih hd he (.inr hh)]
      congr 1
      show [_] = [c]
      congr 1
      omega
theorem val_lt : ∀ {d : List Nat}, NumText.AllDigits d → NumText.digitsVal d < 10 ^ d.length := by
  intro d
  induction d using revInd with
  | h0 => intro _; exact Nat.one_pos
  | h1 e c ih =>
    intro h
    have hc := h c (by simp)
    have := ih fun x hx => h x (List.mem_append_left _ hx)
    rw [val_snoc, List.length_append, List.length_singleton, Nat.pow_succ]
    omega
theorem numL_head {n : Nat} (h : n ≠ 0) : (numL n).head? ≠ some 48 := by
  induction n using Nat.strongRecOn with
  | _ n ih =>
    by_cases h10 : n < 10
    · rw [numL_lt h10]
      intro z
      have := Option.some.inj z
      omega
    · rw [numL_step (by omega)]
      have h1 := ih (n / 10) (by omega) (by omega)
      intro z
      rw [List.head?_append] at z
      cases c : (numL (n / 10)).head? with
      | none => exact numL_ne _ (List.head?_eq_none_iff.mp c)
      | some x =>
        rw [c] at z h1
        exact h1 z
/-! ### split, then joined -/
theorem join_spl {S : List Nat} (hS : S ≠ []) : ∀ (L : List Nat) (k : Nat) (acc : List Nat), joinL S (spl S k acc L) = acc ++ L.drop k := by
  have ne : ∀ (L : List Nat) (k : Nat) (acc : List Nat), spl S k acc L ≠ [] := by
    intro L
    induction L with
    | nil =>
      intro k acc
      rw [spl_nil]
      simp
    | cons c r ih =>
      intro k acc
      cases k with
      | zero =>
        by_cases h : pre S (c :: r) = true
        · rw [spl_hit h]
          simp
        · rw [spl_miss (by simpa using h)]
          exact ih _ _
      | succ k => exact ih k acc
  intro L
  induction L with
  | nil =>
    intro k acc
    rw [spl_nil, List.drop_nil, List.append_nil]
    rfl
  | cons c r ih =>
    intro k acc
    cases k with
    | succ k =>
      rw [List.drop_succ_cons]
      exact ih k acc
    | zero =>
      by_cases h : pre S (c :: r) = true
      · rw [spl_hit h]
        have hj : ∀ (x : List Nat) (xs : List (List Nat)), xs ≠ [] → joinL S (x :: xs) = x ++ (S ++ joinL S xs) := by
          intro x xs hx
          cases xs with
          | nil => exact absurd rfl hx
          | cons y ys => simp [joinL]
        rw [hj _ _ (ne _ _ _), ih, List.nil_append, List.drop_zero]
        congr 1
        have hp : (c :: r).take S.length = S := by
          unfold pre at h
          simpa using h
        have hl : 0 < S.length := List.length_pos_iff.mpr hS
        have e : r.drop (S.length - 1) = (c :: r).drop S.length := by
          have : S.length = (S.length - 1) + 1 := by omega
          rw [this, List.drop_succ_cons]
          rfl
        rw [e]
        conv => rhs; rw [← List.take_append_drop S.length (c :: r), hp]
      · rw [spl_miss (by simpa using h), ih, List.drop_zero, List.drop_zero, List.append_assoc]
        rfl
/-! ### a number behind its sign -/
def NumW (c : Nat) (w : List Nat) : Prop := w.take 1 = [c] ∧ 2 ≤ w.length ∧ w.length ≤ 61 ∧ NumText.AllDigits (w.drop 1) ∧ ¬(w[1]? = some 48 ∧ 2 < w.length)
theorem numW_iff {c : Nat} {w : List Nat} : NumW c w ↔ ∃ v, v < 10 ^ 60 ∧ w = c :: numL v := by
  constructor
  · rintro ⟨h1, h2, h3, h4, h5⟩
    match w, h1, h2, h3, h4, h5 with
    | x :: d, h1, h2, h3, h4, h5 =>
      obtain rfl : x = c := (List.cons.inj h1).1
      have hd : NumText.AllDigits d := h4
      rw [List.length_cons] at h2 h3 h5
      have hne : d ≠ [] := fun z => by rw [z] at h2; exact absurd h2 (by decide)
      have hz : d.length = 1 ∨ d.head? ≠ some 48 := by
        by_cases hl : d.length = 1
        · exact .inl hl
        · refine .inr fun z => h5 ⟨?_, ?_⟩
          · rw [List.getElem?_cons_succ, ← List.head?_eq_getElem?]
            exact z
          · have : 0 < d.length := List.length_pos_iff.mpr hne
            omega
      refine ⟨NumText.digitsVal d, Nat.lt_of_lt_of_le (val_lt hd) (Nat.pow_le_pow_right (by decide) (by omega)), ?_⟩
      rw [numL_canon hd hne hz]
  · rintro ⟨v, hv, rfl⟩
    have hl := numL_len (n := v) (k := 60) (by decide) hv
    have hp : 0 < (numL v).length := List.length_pos_iff.mpr (numL_ne v)
    refine ⟨rfl, ?_, ?_, numL_digits v, ?_⟩
    · rw [List.length_cons]
      omega
    · rw [List.length_cons]
      omega
    · rintro ⟨z1, z2⟩
      rw [List.getElem?_cons_succ, ← List.head?_eq_getElem?] at z1
      by_cases h0 : v = 0
      · subst h0
        rw [numL_lt (by decide)] at z2
        exact absurd z2 (by show ¬ 2 < 2; decide)
      · exact numL_head h0 z1
theorem numW_val {c v : Nat} : NumText.digitsVal ((c :: numL v).drop 1) = v := numL_val v

end
--CUT note
/-! ### texts cut -/
theorem cut_take' (cs : List Nat) (n : Nat) : cutS (ofL cs) none (some (n : Int)) = ofL (cs.take n) := by
  unfold cutS
  rw [HT.sIx_none, HT.sIx_nat]
  have e : (ofL cs).length = cs.length := ofL_len cs
  have e2 : (ofL cs).cps.toList = cs := rfl
  rw [e, e2]
  show ofL _ = ofL _
  congr 1
  rw [List.drop_zero, Nat.sub_zero]
  rcases Nat.le_total n cs.length with h | h
  · rw [Nat.min_eq_left h]
  · rw [Nat.min_eq_right h, List.take_length, List.take_of_length_le h]
theorem cut_drop' (cs : List Nat) (n : Nat) : cutS (ofL cs) (some (n : Int)) none = ofL (cs.drop n) := by
  unfold cutS
  rw [HT.sIx_none, HT.sIx_nat]
  have e : (ofL cs).length = cs.length := ofL_len cs
  have e2 : (ofL cs).cps.toList = cs := rfl
  rw [e, e2]
  show ofL _ = ofL _
  congr 1
  rcases Nat.le_total n cs.length with h | h
  · rw [Nat.min_eq_left h]
    exact List.take_of_length_le (by rw [List.length_drop]; omega)
  · rw [Nat.min_eq_right h, List.drop_length, List.drop_of_length_le h, List.take_nil]
section
variable {σ : L2.St} {H : Hp} {te : TE}
theorem ev_slS1 {cs : List Nat} {tk : TE} {n : Nat} (h : Ev te σ H (.str (ofL cs))) (hk : Ev tk σ H (.int (n : Int))) (hl : cs.length ≤ 100000) : Ev (tSl rSlS te tNoPart (tPart tk)) σ H (.str (ofL (cs.take n))) := fun H1 e Q q =>
  h H1 e _ fun H2 e2 => hk H2 (e.trans e2) _ fun H3 e3 => ⟨n, rfl, ofL cs, rfl, sz_of (by rw [ofL_len]; exact hl), by
    rw [cut_take']
    exact q H3 (e2.trans e3)⟩
theorem ev_slS2 {cs : List Nat} {tk : TE} {n : Nat} (h : Ev te σ H (.str (ofL cs))) (hk : Ev tk σ H (.int (n : Int))) (hl : cs.length ≤ 100000) : Ev (tSl rSlS te (tPart tk) tNoPart) σ H (.str (ofL (cs.drop n))) := fun H1 e Q q =>
  h H1 e _ fun H2 e2 => hk H2 (e.trans e2) _ fun H3 e3 => ⟨n, rfl, ofL cs, rfl, sz_of (by rw [ofL_len]; exact hl), by
    rw [cut_drop']
    exact q H3 (e2.trans e3)⟩
end

/-! ### the law's names -/
def lowC' (c : Nat) : Prop := 97 ≤ c ∧ c ≤ 122
def letter (i : Int) : Nat := 97 + (i % 26).toNat
theorem letter_low (i : Int) : lowC' (letter i) := by
  unfold letter lowC'
  have := Int.emod_nonneg i (by decide : (26 : Int) ≠ 0)
  have := Int.emod_lt_of_pos i (by decide : (0 : Int) < 26)
  omega
def alpha : List Nat := (List.range 26).map (· + 97)
theorem alpha_str : Str.ofString "abcdefghijklmnopqrstuvwxyz" = ofL alpha := by decide +kernel
theorem alpha_at (i : Int) : alpha[(i % 26).toNat]? = some (letter i) := by
  have h1 := Int.emod_nonneg i (by decide : (26 : Int) ≠ 0)
  have h2 := Int.emod_lt_of_pos i (by decide : (0 : Int) < 26)
  unfold alpha letter
  rw [List.getElem?_map, List.getElem?_range (by omega)]
  show some _ = some _
  congr 1
  exact Nat.add_comm _ _
theorem alpha_ix (i : Int) : atI alpha (i % 26) = some (letter i) := by
  have h1 := Int.emod_nonneg i (by decide : (26 : Int) ≠ 0)
  have e0 : (((i % 26).toNat : Nat) : Int) = i % 26 := by omega
  rw [← e0]
  exact atI_nat (alpha_at i)
def nameBase (c : Int) : List Nat := (List.range (1 + c % 8).toNat).map fun (k : Nat) => letter (c / 8 + (k : Int) * (1 + c / 208 % 25))
def nameBy (c : Int) : List Nat := if c / 5200 % 2 = 1 then (nameBase c).set (c / 10400 % (nameBase c).length).toNat (letter (c / 83200)) else nameBase c
theorem nameBase_len (c : Int) : ((nameBase c).length : Int) = 1 + c % 8 := by
  unfold nameBase
  rw [List.length_map, List.length_range]
  have h1 := Int.emod_nonneg c (by decide : (8 : Int) ≠ 0)
  omega
theorem nameBy_len (c : Int) : ((nameBy c).length : Int) = 1 + c % 8 := by
  unfold nameBy
  split
  · rw [List.length_set]; exact nameBase_len c
  · exact nameBase_len c
theorem nameBy_low (c : Int) : ∀ x ∈ nameBy c, lowC' x := by
  have hb : ∀ x ∈ nameBase c, lowC' x := by
    intro x hx
    unfold nameBase at hx
    obtain ⟨k, _, rfl⟩ := List.mem_map.mp hx
    exact letter_low _
  intro x hx
  unfold nameBy at hx
  split at hx
  · rcases List.mem_or_eq_of_mem_set hx with h | rfl
    · exact hb x h
    · exact letter_low _
  · exact hb x hx
/-- a name by its signs -/
def GoodN (cs : List Nat) : Prop := 1 ≤ cs.length ∧ cs.length ≤ 8 ∧ ∀ x ∈ cs, lowC' x
theorem nameBy_good (c : Int) : GoodN (nameBy c) := by
  have h := nameBy_len c
  have h1 := Int.emod_nonneg c (by decide : (8 : Int) ≠ 0)
  have h2 := Int.emod_lt_of_pos c (by decide : (0 : Int) < 8)
  exact ⟨by omega, by omega, nameBy_low c⟩
section
variable {P : Program} {w : World} {K : PySem.W.Frag} {mg : Str → Option Value} {base : Heap}
abbrev spNameBy : Sp := SpF (fun c : Int => [.int c]) (fun _ _ => True) (fun c _ => Is (.str (ofL (nameBy c))))
theorem sv_nameBy {c : Int} {H : Hp} : SpV spNameBy [.int c] H (.str (ofL (nameBy c))) := sv_of (sx_of c (fun _ _ => trivial) fun _ _ _ _ _ h => h)
theorem ok_law_name_by (T : Txt K mg) : FnOk P w K mg base CX0 1 T.a_law_name_by T.d_law_name_by ["_law_cell"] spNameBy := by
  refine T.h_law_name_by.F.ok sc_law_name_by (fun vs H Q E h => ?_) (fun cdv A outer s H vs Q E hr h => ?_)
  · obtain ⟨c, rfl, _⟩ := h
    rfl
  · obtain ⟨c, rfl, _, k⟩ := h
    refine ⟨_, (pss_cons (ps_set (i := 1) sc_law_name_by.nd rfl (by first | exact Or.inl rfl | exact Or.inr rfl) pe_str) (pss_cons (ps_set (i := 2) sc_law_name_by.nd rfl (by first | exact Or.inl rfl | exact Or.inr rfl) (pe_op op_add pe_int (pe_op op_mod (pe_op op_fdiv (pv 0) pe_int) pe_int))) (pss_cons (ps_setLc (i := 3) (own := [("_law_k", 4)]) (g := _)  rfl sc_law_name_by.nd rfl rfl (sw_true rfl rfl rfl (by decide +kernel)) (pi_range1 (by rfl) T.n_range (pa_cons (pe_op op_add pe_int (pe_op op_mod (pv 0) pe_int)) pa_nil)) (blkOk_by (own := [("_law_k", 4)]) (N := ["_law_cell", "_law_signs", "_law_step", "_law_word", "_law_k"]) (sc := defScope s_law_name_by) (by decide +kernel)) (fun _ _ _ _ _ => (pg_name (i := 4) sc_law_name_by.nd rfl (by first | exact Or.inl rfl | exact Or.inr rfl))) (fun _ _ _ _ _ => pts_nil) (fun _ _ _ _ _ => (pe_ix ix_str (pv 1) (pe_op op_mod (pe_op op_add (pe_op op_fdiv (pv 0) pe_int) (pe_op op_mul (pv 4) (pv 2))) pe_int) (fun _ _ => rfl)))) (pss_cons (ps_if (pt_cmpR op_eq (pe_op op_mod (pe_op op_fdiv (pv 0) pe_int) pe_int) pe_int (nomark _)) (pss_one (ps_asg (pe_ix ix_str (pv 1) (pe_op op_mod (pe_op op_fdiv (pv 0) pe_int) pe_int) (fun _ _ => rfl)) (pg_sub (pv 3) (pe_op op_mod (pe_op op_fdiv (pv 0) pe_int) (pe_callB call_len_seq (by rfl) T.n_len PySem.boot_len (pa_cons (pv 3) pa_nil))) set_list))) pss_nil) (pss_one (ps_ret (pe_join pe_str (pv 3)))))))), ?_⟩
    have h1 := Int.emod_nonneg c (by decide : (8 : Int) ≠ 0)
    have h2 := Int.emod_lt_of_pos c (by decide : (0 : Int) < 8)
    have h3 := Int.emod_nonneg (c / 208) (by decide : (25 : Int) ≠ 0)
    have h4 := Int.emod_lt_of_pos (c / 208) (by decide : (0 : Int) < 25)
    have hl := nameBase_len c
    refine q_asg (v := .str (ofL alpha)) (ev_is ev_c (by rw [alpha_str])) fun H1 e1 => ?_
    refine q_asg (by walk_at "ev") fun H2 e2 => ?_
    refine q_asgL (el_lcR1 (n := 1 + c % 8) (fun _ => true) (fun i => .str (sg (letter (c / 8 + (i : Int) * (1 + c / 208 % 25))))) (ea_cons (by walk_at "ev") ea_nil) (by omega) (fun _ => rfl) (fun i H3 e3 hi => et_yes) (fun i H3 e3 hi _ => ?_)) fun p H3 hp e3 h3 => ?_
    · refine ev_op (y := .int ((c / 8 + (i : Int) * (1 + c / 208 % 25)) % 26)) (ev_var rfl) ?_ (rv_ixS (by rw [ofL_len]; decide) (alpha_ix _))
      exact ev_op (ev_op (ev_op (ev_var rfl) ev_c (rv_I ⟨by decide, by decide⟩)) (ev_op (ev_var rfl) (ev_var rfl) (rv_I (Or.inl ⟨by omega, by omega⟩))) rv_I0) ev_c (rv_I (by show (0 : Int) < 26; decide))
    rw [given_all] at h3
    have h3' : H3 p = some (.lst (((nameBase c).map sg).map V.str)) := by
      rw [h3]
      unfold nameBase
      rw [List.map_map, List.map_map]
      rfl
    clear h3
    refine q_when (b := decide (V.int (c / 5200 % 2) = V.int 1)) (by walk_at "ev") (fun hb H4 e4 => ?_) (fun hb H4 e4 => ?_)
    · have hb' := V.int.inj (of_decide_eq_true hb)
      have hn : (0 : Int) < (nameBase c).length := by omega
      have hm1 : 0 ≤ c / 10400 % ((nameBase c).length : Int) := Int.emod_nonneg _ (by omega)
      have hm2 : c / 10400 % ((nameBase c).length : Int) < (nameBase c).length := Int.emod_lt_of_pos _ hn
      refine s_setL (l := p) (xs := ((nameBase c).map sg).map V.str) (j := (c / 10400 % ((nameBase c).length : Int)).toNat) (v := .str (sg (letter (c / 83200)))) (e4 _ _ h3') ?_ (ev_var rfl) ?_ (by simp; omega) fun H5 e5 => ?_
      · exact ev_op (y := .int (c / 83200 % 26)) (ev_var rfl) (by walk_at "ev") (rv_ixS (by rw [ofL_len]; decide) (alpha_ix _))
      · have e5 : (((c / 10400 % ((nameBase c).length : Int)).toNat : Nat) : Int) = c / 10400 % ((nameBase c).length : Int) := by omega
        rw [e5]
        exact ev_op (by walk_at "ev") (ev_is (ev_cb (ea_cons (ev_var rfl) ea_nil) (rc_lenL (sq_of (e4 _ _ h3')))) (by simp)) (rv_I hn)
      dsimp only
      have e6 : (((nameBase c).map sg).map V.str).set (c / 10400 % ((nameBase c).length : Int)).toNat (.str (sg (letter (c / 83200)))) = ((nameBy c).map sg).map V.str := by
        unfold nameBy
        rw [if_pos hb', List.map_set, List.map_set]
      rw [e6]
      have hg := nameBy_good c
      refine s_ret (x_join (cs := nameBy c) ev_c (x_varL rfl (sq_of upd_same)) (by have := hg.2.1; omega)) fun H6 e6 => k _ _ ?_ rfl
      refine Ex.trans (Ex.mut ?_ (fresh_back e1 (fresh_back e2 hp))) e6
      walk_at "ex"
    · have hb' : ¬ c / 5200 % 2 = 1 := fun z => of_decide_eq_false hb (congrArg V.int z)
      have e6 : nameBase c = nameBy c := by
        unfold nameBy
        rw [if_neg hb']
      rw [e6] at h3'
      have hg := nameBy_good c
      refine s_ret (x_join (cs := nameBy c) ev_c (x_varL rfl (sq_of (e4 _ _ h3'))) (by have := hg.2.1; omega)) fun H5 e5 => k _ _ (by walk_at "ex") rfl
end
local macro_rules | `(tactic| walk_at "sv") => `(tactic| exact sv_nameBy)

def cellAt (ns : List Int) (k : Int) : Int := ns[k.toNat]?.getD 0
section
variable {P : Program} {w : World} {K : PySem.W.Frag} {mg : Str → Option Value} {base : Heap}
abbrev spCell (K : PySem.W.Frag) : Sp := SpF (fun x : Addr × List Int × Int => [.ref x.1, .int x.2.2]) (fun x H => SqL K H x.1 (x.2.1.map V.int) ∧ 0 ≤ x.2.2) (fun x _ => Is (.int (cellAt x.2.1 x.2.2)))
theorem sv_cell {H : Hp} {a : Addr} {ns : List Int} {k : Int} (h : SqL K H a (ns.map V.int)) (hk : 0 ≤ k) : SpV (spCell K) [.ref a, .int k] H (.int (cellAt ns k)) := sv_of (sx_of (a, ns, k) (fun _ e => ⟨ex_l e h, hk⟩) fun _ _ _ _ _ h => h)
theorem ok_law_cell_at (T : Txt K mg) : FnOk P w K mg base CX0 1 T.a_law_cell_at T.d_law_cell_at ["_law_script", "_law_k"] (spCell K) := by
  refine T.h_law_cell_at.F.ok sc_law_cell_at (fun vs H Q E h => ?_) (fun cdv A outer s H vs Q E hr h => ?_)
  · obtain ⟨c, rfl, _⟩ := h
    rfl
  · obtain ⟨⟨a, ns, j⟩, rfl, ⟨hs, hj⟩, k⟩ := h
    simp only at hs hj k
    refine ⟨_, (pss_cons (ps_if (pt_cmpR op_lt (pv 1) (pe_callB call_len_seq (by rfl) T.n_len PySem.boot_len (pa_cons (pv 0) pa_nil)) (nomark _)) (pss_one (ps_ret (pe_ix ix_list (pv 0) (pv 1) (fun _ _ => rfl)))) pss_nil) (pss_one (ps_ret pe_int))), ?_⟩
    refine q_when (by walk_at "ev") (fun hb H2 e2 => ?_) (fun hb H2 e2 => ?_)
    · have hb' : j < ((ns.map V.int).length : Int) := of_decide_eq_true hb
      rw [List.length_map] at hb'
      have hlt : j.toNat < ns.length := by omega
      have e0 : ((j.toNat : Nat) : Int) = j := by omega
      refine s_ret (ev_op (ev_var rfl) (ev_var rfl) (rv_ixL (xs := ns.map V.int) (v := .int (cellAt ns j)) (ex_l e2 hs) ?_)) fun H3 e3 => k _ _ (by walk_at "ex") rfl
      show atI (ns.map V.int) j = _
      rw [← e0]
      refine atI_nat ?_
      rw [List.getElem?_map, List.getElem?_eq_getElem hlt]
      unfold cellAt
      rw [e0, List.getElem?_eq_getElem hlt]
      rfl
    · have hb' : ¬ j < ((ns.map V.int).length : Int) := of_decide_eq_false hb
      rw [List.length_map] at hb'
      refine s_ret ev_c fun H3 e3 => k _ _ (by walk_at "ex") ?_
      show _ = _
      rw [cellAt, List.getElem?_eq_none (by omega)]
      rfl
end
local macro_rules | `(tactic| walk_at "sv") => `(tactic| exact sv_cell (by walk_at "sq") (by decide))

/-! ### a number read -/
section
variable {P : Program} {w : World} {K : PySem.W.Frag} {mg : Str → Option Value} {base : Heap}
def RdOk (c : Nat) (w : List Nat) : Prop := w.take 1 = [c] ∧ 1 ≤ (w.drop 1).length ∧ (w.drop 1).length ≤ 60 ∧ PySem.NumText.AllDigits (w.drop 1)
def figB (c : Nat) : Bool := (!decide ((Str.ofString "0").cps.toList > [c])) && !decide ((Str.ofString "9").cps.toList < [c])
theorem figB_iff (c : Nat) : figB c = true ↔ 48 ≤ c ∧ c ≤ 57 := by
  have e0 : (Str.ofString "0").cps.toList = [48] := by decide +kernel
  have e9 : (Str.ofString "9").cps.toList = [57] := by decide +kernel
  unfold figB
  rw [e0, e9, Bool.and_eq_true, Bool.not_eq_true', Bool.not_eq_true', decide_eq_false_iff_not, decide_eq_false_iff_not]
  have h1 : ([48] > [c]) ↔ c < 48 := by
    show [c] < [48] ↔ _
    rw [List.cons_lt_cons_iff]
    simp
  have h2 : ([57] < [c]) ↔ 57 < c := by
    rw [List.cons_lt_cons_iff]
    simp
  rw [h1, h2]
  omega
theorem figs_iff (l : List Nat) : (l.map figB).all id = true ↔ PySem.NumText.AllDigits l := by
  rw [List.all_map, List.all_eq_true]
  exact ⟨fun h x hx => (figB_iff x).mp (h x hx), fun h x hx => (figB_iff x).mpr (h x hx)⟩
abbrev spReadNo (N : Addr) : Sp := fun vs H Q E => ∃ (c : Nat) (w : List Nat), vs = [.str (ofL [c]), .str (ofL w)] ∧ w.length ≤ 2000 ∧ (RdOk c w → Ret (Is (.int (PySem.NumText.digitsVal (w.drop 1) : Nat))) H Q) ∧ (¬ RdOk c w → ∀ H', Ex H H' → E (.ref N) none H')
theorem ok_read_number (T : Txt K mg) : FnOk P w K mg base (L2.CX P w) 1 T.a_read_number T.d_read_number ["sign", "part"] (spReadNo T.c_NoNote) := by
  refine T.h_read_number.F.okX sc_read_number (fun vs H Q E h => ?_) (fun cdv A outer s H vs Q E hr h => ?_)
  · obtain ⟨c, w, rfl, _⟩ := h
    rfl
  · obtain ⟨c, w, rfl, hl, k1, k2⟩ := h
    refine ⟨_, (pss_cons (ps_set (i := 2) sc_read_number.nd rfl (by first | exact Or.inl rfl | exact Or.inr rfl) (pe_slice sl_str (pv 1) (po_some pe_int) po_none)) (pss_cons (ps_if (PW.pt (pw_or (pt_cmpR op_ne (pe_slice sl_str (pv 1) po_none (po_some pe_int)) (pv 0) (nomark _)) (pw_or1 (pt_not (pt_chain op_le op_le pe_int (pe_callB call_len_str (by rfl) T.n_len PySem.boot_len (pa_cons (pv 2) pa_nil)) (pe_glob rfl T.g_MOST_FIGURES.1 T.g_MOST_FIGURES.2)))))) (pss_one (ps_raise rfl (takes_of rfl rfl rfl rfl) (pmk_own PySem.F.excBase_ValueError T.x_NoNote.q T.x_NoNote.g T.x_NoNote.kp (raises_own T.x_NoNote.b T.x_NoNote.t) rfl))) pss_nil) (pss_cons (ps_if (pt_not (pt_val (pe_callB (cr_all rfl) (by rfl) T.n_all (by decide +kernel) (pa_cons (pe_lc (own := [("figure", 3)]) (by rfl) sc_read_number.nd (pi_str (pv 2)) (blkOk_by (own := [("figure", 3)]) (N := ["sign", "part", "figures", "figure"]) (sc := defScope s_read_number) (by decide +kernel)) (fun _ _ _ _ _ => (pg_name (i := 3) sc_read_number.nd rfl (by first | exact Or.inl rfl | exact Or.inr rfl))) (fun _ _ _ _ _ => pts_nil) (fun _ _ _ _ _ => (pe_chain op_le_str op_le_str pe_str (pv 3) pe_str))) pa_nil)))) (pss_one (ps_raise rfl (takes_of rfl rfl rfl rfl) (pmk_own PySem.F.excBase_ValueError T.x_NoNote.q T.x_NoNote.g T.x_NoNote.kp (raises_own T.x_NoNote.b T.x_NoNote.t) rfl))) pss_nil) (pss_one (ps_ret (pe_callTy call_int_str (by rfl) T.n_int (by decide +kernel) (pa_cons (pv 2) pa_nil))))))), ?_⟩
    have hdl : (w.drop 1).length ≤ 2000 := by rw [List.length_drop]; omega
    refine q_asg (v := .str (ofL (w.drop 1))) (ev_slS2 (n := 1) (ev_var rfl) ev_c (by omega)) fun H1 e1 => ?_
    refine q_when (b := !decide (V.str (ofL (w.take 1)) = V.str (ofL [c])) || !(decide ((1 : Int) ≤ ((w.drop 1).length : Int)) && decide (((w.drop 1).length : Int) ≤ 60))) (et_or (et_test (ev_op (ev_slS1 (n := 1) (ev_var rfl) ev_c (by omega)) (ev_var rfl) (rv_ne rfl))) fun _ => et_not (et_test (ev_chain ev_c (ev_is (ev_cb (ea_cons (ev_var rfl) ea_nil) (rc_lenStr (by rw [ofL_len]; omega))) (by rw [ofL_len])) rv_I0 (fun _ => ev_c) (fun _ => rv_I0)))) (fun hb H2 e2 => ?_) (fun hb H2 e2 => ?_)
    · refine k2 (fun z => ?_) H2 (e1.trans e2)
      obtain ⟨z1, z2, z3, _⟩ := z
      rw [z1, decide_eq_true rfl, decide_eq_true (by omega), decide_eq_true (by omega)] at hb
      cases hb
    · have hb1 : w.take 1 = [c] ∧ 1 ≤ (w.drop 1).length ∧ (w.drop 1).length ≤ 60 := by
        simp only [Bool.or_eq_false_iff, Bool.not_eq_false', Bool.and_eq_true, decide_eq_true_eq] at hb
        exact ⟨ofL_inj (V.str.inj hb.1), by omega, by omega⟩
      refine q_when (b := !((w.drop 1).map figB).all id) (et_not (et_B (x_all (bs := (w.drop 1).map figB) ?_))) (fun hb H3 e3 => ?_) (fun hb H3 e3 => ?_)
      · rw [List.map_map]
        refine el_lcS (z := ofL (w.drop 1)) _ (ev_var rfl) (by show (w.drop 1).length ≤ 40000; omega) (fun _ => rfl) (fun i c H2 e2 hc => ?_)
        exact ev_chain ev_c (ev_var rfl) rv_leStr (fun _ => ev_c) (fun _ => rv_leStr)
      · refine k2 (fun z => ?_) H3 ((e1.trans e2).trans e3)
        rw [(figs_iff _).mpr z.2.2.2] at hb
        cases hb
      · have hd : PySem.NumText.AllDigits (w.drop 1) := (figs_iff _).mp (by rw [Bool.not_eq_false'] at hb; exact hb)
        have hne : w.drop 1 ≠ [] := fun z => by rw [z] at hb1; exact absurd hb1.2.1 (by decide)
        refine s_ret (v := .int (PySem.NumText.digitsVal (w.drop 1) : Nat)) (ev_cb (ea_cons (ev_var rfl) ea_nil) (fun H4 e4 _ q => ⟨ofL (w.drop 1), _, rfl, (by first | exact PySem.intText_digits (x := ofL (w.drop 1)) hd hne (by rw [ofL_len]; omega) | exact PySem.NumText.intText_digits (x := ofL (w.drop 1)) hd hne (by rw [ofL_len]; omega)), by rw [ofL_len]; omega, q H4 (Ex.refl H4)⟩)) fun H4 e4 => k1 ⟨hb1.1, hb1.2.1, hb1.2.2, hd⟩ _ _ (((e1.trans e2).trans e3).trans e4) rfl
end

--CUT noteb
/-! ### the law's own reading: a name, a number -/
section
variable {P : Program} {w : World} {K : PySem.W.Frag} {mg : Str → Option Value} {base : Heap}
theorem rv_notInSign {c : Nat} {l : List Nat} {H : Hp} : RV (fun x y H Q => ∃ (c : Nat) (z : Str), x = .str ⟨#[c]⟩ ∧ y = .str z ∧ Q (.bl (!decide (c ∈ z.cps.toList))) H) (.str ⟨#[c]⟩) (.str (ofL l)) H (.bl (!decide (c ∈ l))) := fun H1 _ _ q => ⟨c, ofL l, rfl, rfl, q H1 (Ex.refl H1)⟩
def figs : List Nat := (List.range 10).map (· + 48)
theorem figs_str : Str.ofString "0123456789" = ofL figs := by decide +kernel
theorem figs_mem (c : Nat) : c ∈ figs ↔ 48 ≤ c ∧ c ≤ 57 := by
  unfold figs
  rw [List.mem_map]
  constructor
  · rintro ⟨a, ha, rfl⟩
    have := List.mem_range.mp ha
    omega
  · intro h
    exact ⟨c - 48, List.mem_range.mpr (by omega), by omega⟩
theorem alpha_mem (c : Nat) : c ∈ alpha ↔ lowC' c := by
  unfold alpha lowC'
  rw [List.mem_map]
  constructor
  · rintro ⟨a, ha, rfl⟩
    have := List.mem_range.mp ha
    omega
  · intro h
    exact ⟨c - 97, List.mem_range.mpr (by omega), by omega⟩
theorem take_snoc {l : List Nat} {i c : Nat} (h : l[i]? = some c) {p : Nat → Prop} (ht : ∀ x ∈ l.take i, p x) (hc : p c) : ∀ x ∈ l.take (i + 1), p x := by
  intro x hx
  rw [List.take_succ, h] at hx
  rcases List.mem_append.mp hx with hx | hx
  · exact ht x hx
  · rw [List.mem_singleton.mp hx]
    exact hc
open Classical in
abbrev spNamed : Sp := SpF (fun u : List Nat => [.str (ofL u)]) (fun u _ => u.length ≤ 2000) (fun u _ => Is (.bl (decide (GoodN u))))
open Classical in
theorem ok_law_named (T : Txt K mg) : FnOk P w K mg base CX0 1 T.a_law_named T.d_law_named ["_law_word"] spNamed := by
  refine T.h_law_named.F.ok sc_law_named (fun vs H Q E h => ?_) (fun cdv A outer s H vs Q E hr h => ?_)
  · obtain ⟨u, rfl, _⟩ := h
    rfl
  · obtain ⟨u, rfl, hu, k⟩ := h
    refine ⟨_, (pss_cons (ps_for PassesOwn.never rfl (pi_str (pv 0)) (pg_name (i := 1) sc_law_named.nd rfl (by first | exact Or.inl rfl | exact Or.inr rfl)) (pss_one (ps_if (pt_cmpR op_notIn_sign (pv 1) pe_str rfl) (pss_one (ps_ret pe_bl)) pss_nil))) (pss_one (ps_ret (pe_chain op_le op_le pe_int (pe_callB call_len_str (by rfl) T.n_len PySem.boot_len (pa_cons (pv 0) pa_nil)) pe_int)))), ?_⟩
    refine q_forStr (z := ofL u) (ev_var rfl) (fun i σ' H' => ∃ s1, σ' = [some (.str (ofL u)), s1] ∧ Ex H H' ∧ ∀ x ∈ u.take i, lowC' x) (fun H1 e1 => ⟨none, rfl, e1, fun x hx => by rw [List.take_zero] at hx; cases hx⟩) ?_ ?_
    · rintro i c σ' H1 hc ⟨s1, rfl, e1, hlow⟩
      have hc' : u[i]? = some c := hc
      refine s_when (b := !decide (c ∈ alpha)) (et_test (ev_op (ev_var rfl) (ev_is ev_c (by rw [alpha_str])) rv_notInSign)) (fun hb H2 e2 => ?_) (fun hb H2 e2 => ?_)
      · refine s_ret ev_c fun H3 e3 => k _ _ ((e1.trans e2).trans e3) ?_
        have hn : ¬ GoodN u := fun z => by
          have := (alpha_mem c).mpr (z.2.2 c (List.mem_of_getElem? hc'))
          rw [decide_eq_true this] at hb
          cases hb
        show _ = _
        rw [decide_eq_false hn]
      · refine ⟨_, rfl, e1.trans e2, take_snoc hc' hlow ((alpha_mem c).mp ?_)⟩
        rw [Bool.not_eq_false'] at hb
        exact of_decide_eq_true hb
    · rintro σ' H1 ⟨s1, rfl, e1, hlow⟩
      rw [show (ofL u).cps.toList.length = u.length from rfl, List.take_length] at hlow
      refine s_ret (v := .bl (decide ((1 : Int) ≤ (u.length : Int)) && decide ((u.length : Int) ≤ 8))) (ev_chain ev_c (ev_is (ev_cb (ea_cons (ev_var rfl) ea_nil) (rc_lenStr (by rw [ofL_len]; omega))) (by rw [ofL_len])) rv_I0 (fun _ => ev_c) (fun _ => rv_I0)) fun H2 e2 => k _ _ (e1.trans e2) ?_
      show V.bl _ = V.bl _
      congr 1
      rw [Bool.eq_iff_iff, Bool.and_eq_true, decide_eq_true_iff, decide_eq_true_iff, decide_eq_true_iff]
      exact ⟨fun h => ⟨by omega, by omega, hlow⟩, fun h => ⟨by have := h.1; omega, by have := h.2.1; omega⟩⟩
open Classical in
noncomputable def numV (c : Nat) (u : List Nat) : Int := if NumW c u then (PySem.NumText.digitsVal (u.drop 1) : Nat) else -1
abbrev spNumberOf : Sp := SpF (fun x : List Nat × Nat => [.str (ofL x.1), .str (ofL [x.2])]) (fun x _ => x.1.length ≤ 2000) (fun x _ => Is (.int (numV x.2 x.1)))
theorem ok_law_number_of (T : Txt K mg) : FnOk P w K mg base CX0 1 T.a_law_number_of T.d_law_number_of ["_law_word", "_law_sign"] spNumberOf := by
  refine T.h_law_number_of.F.ok sc_law_number_of (fun vs H Q E h => ?_) (fun cdv A outer s H vs Q E hr h => ?_)
  · obtain ⟨u, rfl, _⟩ := h
    rfl
  · obtain ⟨⟨u, c⟩, rfl, hu, k⟩ := h
    simp only at hu k
    have hu1 : u.length ≤ 100000 := by omega
    refine ⟨_, (pss_cons (ps_if (PW.pt (pw_or (pt_cmpR op_ne (pe_slice sl_str (pv 0) po_none (po_some pe_int)) (pv 1) (nomark _)) (pw_or1 (pt_not (pt_chain op_le op_le pe_int (pe_callB call_len_str (by rfl) T.n_len PySem.boot_len (pa_cons (pv 0) pa_nil)) pe_int))))) (pss_one (ps_ret (pe_un un_neg pe_int))) pss_nil) (pss_cons (ps_for PassesOwn.never rfl (pi_str (pe_slice sl_str (pv 0) (po_some pe_int) po_none)) (pg_name (i := 2) sc_law_number_of.nd rfl (by first | exact Or.inl rfl | exact Or.inr rfl)) (pss_one (ps_if (pt_cmpR op_notIn_sign (pv 2) pe_str rfl) (pss_one (ps_ret (pe_un un_neg pe_int))) pss_nil))) (pss_cons (ps_if (PW.pt (pw_and (pt_cmpR op_eq (pe_ix ix_str (pv 0) pe_int (fun _ _ => rfl)) pe_str (nomark _)) (pw_and1 (pt_cmpR op_gt (pe_callB call_len_str (by rfl) T.n_len PySem.boot_len (pa_cons (pv 0) pa_nil)) pe_int (nomark _))))) (pss_one (ps_ret (pe_un un_neg pe_int))) pss_nil) (pss_one (ps_ret (pe_callTy call_int_str (by rfl) T.n_int (by decide +kernel) (pa_cons (pe_slice sl_str (pv 0) (po_some pe_int) po_none) pa_nil))))))), ?_⟩
    have no : ∀ {H' : Hp} {D : Ends} {σ : L2.St}, (∀ v H2, D.rt v H2 ↔ Q v H2) → Ex H H' → ¬ NumW c u → tRet (tUn (rU fun i => .int (-i)) (tC (.int 1))) D σ H' := fun hD e hn => s_ret (v := .int (-1)) (ev_un ev_c ru_neg) fun H2 e2 => (hD _ _).mpr (k _ _ (e.trans e2) (by
      show _ = V.int (numV c u)
      unfold numV
      rw [if_neg hn]))
    refine q_when (b := !decide (V.str (ofL (u.take 1)) = V.str (ofL [c])) || !(decide ((2 : Int) ≤ (u.length : Int)) && decide ((u.length : Int) ≤ 61))) (et_or (et_test (ev_op (ev_slS1 (n := 1) (ev_var rfl) ev_c hu1) (ev_var rfl) (rv_ne rfl))) fun _ => et_not (et_test (ev_chain ev_c (ev_is (ev_cb (ea_cons (ev_var rfl) ea_nil) (rc_lenStr (by rw [ofL_len]; exact hu1))) (by rw [ofL_len])) rv_I0 (fun _ => ev_c) (fun _ => rv_I0)))) (fun hb H1 e1 => no (fun _ _ => Iff.rfl) e1 fun z => ?_) (fun hb H1 e1 => ?_)
    · obtain ⟨z1, z2, z3, _⟩ := z
      rw [z1, decide_eq_true rfl, decide_eq_true (by omega), decide_eq_true (by omega)] at hb
      cases hb
    have h1 : u.take 1 = [c] ∧ 2 ≤ u.length ∧ u.length ≤ 61 := by
      simp only [Bool.or_eq_false_iff, Bool.not_eq_false', Bool.and_eq_true, decide_eq_true_eq] at hb
      exact ⟨ofL_inj (V.str.inj hb.1), by omega, by omega⟩
    refine q_forStr (z := ofL (u.drop 1)) (ev_slS2 (n := 1) (ev_var rfl) ev_c hu1) (fun i σ' H' => ∃ s2, σ' = [some (.str (ofL u)), some (.str (ofL [c])), s2] ∧ Ex H H' ∧ ∀ x ∈ (u.drop 1).take i, 48 ≤ x ∧ x ≤ 57) (fun H2 e2 => ⟨none, rfl, e1.trans e2, fun x hx => by rw [List.take_zero] at hx; cases hx⟩) ?_ ?_
    · rintro i f σ' H2 hf ⟨s2, rfl, e2, hfig⟩
      have hf' : (u.drop 1)[i]? = some f := hf
      refine s_when (b := !decide (f ∈ figs)) (et_test (ev_op (ev_var rfl) (ev_is ev_c (by rw [figs_str])) rv_notInSign)) (fun hb H3 e3 => no (fun _ _ => Iff.rfl) (e2.trans e3) fun z => ?_) (fun hb H3 e3 => ?_)
      · have := (figs_mem f).mpr (z.2.2.2.1 f (List.mem_of_getElem? hf'))
        rw [decide_eq_true this] at hb
        cases hb
      · refine ⟨_, rfl, e2.trans e3, take_snoc hf' hfig ((figs_mem f).mp ?_)⟩
        rw [Bool.not_eq_false'] at hb
        exact of_decide_eq_true hb
    · rintro σ' H2 ⟨s2, rfl, e2, hfig⟩
      rw [show (ofL (u.drop 1)).cps.toList.length = (u.drop 1).length from rfl, List.take_length] at hfig
      obtain ⟨x, hx⟩ : ∃ x, u[1]? = some x := ⟨_, List.getElem?_eq_getElem (show 1 < u.length by omega)⟩
      refine q_when (b := decide (V.str (ofL [x]) = V.str (ofL [48])) && decide ((u.length : Int) > 2)) (et_and (et_test (ev_op (ev_op (ev_var rfl) ev_c (rv_ixS (by rw [ofL_len]; exact hu1) (atI_nat (j := 1) hx))) (ev_is (v := .str (ofL [48])) ev_c (congrArg V.str (by decide +kernel))) (rv_eq rfl))) fun _ => et_test (ev_op (ev_is (ev_cb (ea_cons (ev_var rfl) ea_nil) (rc_lenStr (by rw [ofL_len]; exact hu1))) (by rw [ofL_len])) ev_c rv_I0)) (fun hb H3 e3 => no (fun _ _ => Iff.rfl) (e2.trans e3) fun z => ?_) (fun hb H3 e3 => ?_)
      · simp only [Bool.and_eq_true, decide_eq_true_eq] at hb
        have hx48 : x = 48 := (List.cons.inj (ofL_inj (V.str.inj hb.1))).1
        exact z.2.2.2.2 ⟨by rw [hx, hx48], by omega⟩
      · have hN : NumW c u := ⟨h1.1, h1.2.1, h1.2.2, hfig, fun z => by
          have hx48 : x = 48 := by
            have := z.1
            rw [hx] at this
            exact Option.some.inj this
          rw [hx48, decide_eq_true rfl, decide_eq_true (by omega)] at hb
          cases hb⟩
        have hdl : (u.drop 1).length ≤ 60 := by rw [List.length_drop]; omega
        have hne : u.drop 1 ≠ [] := fun z => by
          have := congrArg List.length z
          rw [List.length_drop] at this
          simp at this
          omega
        have hsl : Ev (tSl rSlS (tVar 0) (tPart (tC (.int 1))) tNoPart) [some (.str (ofL u)), some (.str (ofL [c])), s2] H3 (.str (ofL (u.drop 1))) := ev_slS2 (n := 1) (ev_var rfl) ev_c hu1
        refine s_ret (v := .int (PySem.NumText.digitsVal (u.drop 1) : Nat)) (ev_cb (ea_cons hsl ea_nil) (fun H4 e4 _ q => ⟨ofL (u.drop 1), _, rfl, (by first | exact PySem.intText_digits (x := ofL (u.drop 1)) hfig hne (by rw [ofL_len]; omega) | exact PySem.NumText.intText_digits (x := ofL (u.drop 1)) hfig hne (by rw [ofL_len]; omega)), by rw [ofL_len]; omega, q H4 (Ex.refl H4)⟩)) fun H4 e4 => k _ _ ((e2.trans e3).trans e4) ?_
        show _ = V.int (numV c u)
        unfold numV
        rw [if_pos hN]
end

--CUT notec
/-! ### a sign -/
section
variable {P : Program} {w : World} {K : PySem.W.Frag} {mg : Str → Option Value} {base : Heap}
abbrev spSignBy : Sp := SpF (fun c : Int => [.int c]) (fun _ _ => True) (fun _ _ v _ => ∃ x : Nat, v = .str (ofL [x]))
theorem ok_law_sign_by (T : Txt K mg) : FnOk P w K mg base CX0 1 T.a_law_sign_by T.d_law_sign_by ["_law_cell"] spSignBy := by
  refine T.h_law_sign_by.F.ok sc_law_sign_by (fun vs H Q E h => ?_) (fun cdv A outer s H vs Q E hr h => ?_)
  · obtain ⟨c, rfl, _⟩ := h
    rfl
  · obtain ⟨c, rfl, _, k⟩ := h
    refine ⟨_, (pss_cons (ps_set (i := 1) sc_law_sign_by.nd rfl (by first | exact Or.inl rfl | exact Or.inr rfl) pe_str) (pss_cons (ps_set (i := 1) sc_law_sign_by.nd rfl (by first | exact Or.inl rfl | exact Or.inr rfl) (pe_op op_add_str (pv 1) pe_str)) (pss_cons (ps_set (i := 1) sc_law_sign_by.nd rfl (by first | exact Or.inl rfl | exact Or.inr rfl) (pe_op op_add_str (pv 1) pe_str)) (pss_one (ps_ret (pe_ix ix_str (pv 1) (pe_op op_mod (pv 0) (pe_callB call_len_str (by rfl) T.n_len PySem.boot_len (pa_cons (pv 1) pa_nil))) (fun _ _ => rfl))))))), ?_⟩
    refine q_asg ev_c fun H1 e1 => ?_
    refine q_asg (ev_op (ev_var rfl) ev_c (rv_addStr (by decide +kernel))) fun H2 e2 => ?_
    refine q_asg (ev_op (ev_var rfl) ev_c (rv_addStr (by decide +kernel))) fun H3 e3 => ?_
    generalize hz : (Str.ofString _ ++ Str.ofString _ ++ Str.ofString _ : Str) = z
    have hn : 0 < z.length ∧ z.length ≤ 1000 := by rw [← hz]; decide +kernel
    have m1 := Int.emod_nonneg c (by omega : (z.length : Int) ≠ 0)
    have m2 := Int.emod_lt_of_pos c (by omega : (0 : Int) < (z.length : Int))
    have hl : z.cps.toList.length = z.length := by show z.cps.toList.length = z.cps.size; simp
    have hlt : (c % (z.length : Int)).toNat < z.cps.toList.length := by omega
    refine s_ret (v := .str (ofL [z.cps.toList[(c % (z.length : Int)).toNat]])) (ev_op (ev_var rfl) (ev_op (ev_var rfl) (ev_cb (ea_cons (ev_var rfl) ea_nil) (rc_lenStr (by omega))) (rv_I (by show (0 : Int) < _; omega))) (rv_ixS (by omega) (atI_of m1 (List.getElem?_eq_getElem hlt)))) fun H4 e4 => k _ _ (((e1.trans e2).trans e3).trans e4) ⟨_, rfl⟩
end

--CUT noted
/-! ### a text cut at a blank, at a comma and a blank -/
section
variable {K : PySem.W.Frag} {σ : L2.St} {H : Hp} {ta : TE}
open TL in
theorem split_ofL {b : List Nat} (hb : b ≠ []) (hk : b.all (· < 256) = true) (l : List Nat) : Txt.split (ofL l) (ofL b) = (spl b 0 [] l).map ofL := SX.split_S hb hk
open TL in
/-- s.split(sep) -/
theorem x_split {l b : List Nat} {z : Str} (hb : b ≠ []) (hk : b.all (· < 256) = true) (hz : z = ofL b) (h : Ev ta σ H (.str (ofL l))) (hl : l.length ≤ 90000) :
    EvX (tBM K "str" (fun x xs H Q => ∃ a b, x = .str a ∧ xs = [.str b] ∧ (b.length == 0) = false ∧ a.length + 2 ≤ sizeLine ∧ rNewStrs (Txt.split a b) H Q) ta (tCons (tC (.str z)) tNil)) σ H (Nw H (.lst ((spl b 0 [] l).map fun p => V.str (ofL p)))) := fun H1 e Q q =>
  h H1 e _ fun H2 e2 => ⟨rfl, ofL l, ofL b, rfl, by rw [hz], by
    rw [ofL_len]
    cases b with
    | nil => exact absurd rfl hb
    | cons x r => rfl, by rw [ofL_len]; exact sz_of (by omega), fun p hp => by
    rw [split_ofL hb hk, List.map_map]
    exact q _ _ (e2.trans (Ex.new hp)) ⟨p, rfl, fresh_back e (fresh_back e2 hp), upd_same⟩⟩
end


--CUT pure
open PySem.W TL in
theorem pure_open : True := trivial
section
open PySem.W TL
/-! ### a page's text, read and written -/
def T60 : Int := 1000000000000000000000000000000000000000000000000000000000000
theorem t60_eq : T60 = ((10 ^ 60 : Nat) : Int) := by decide +kernel
theorem t60_nat {a : Int} (h0 : 0 ≤ a) (h : a < T60) : a.toNat < 10 ^ 60 := by
  rw [t60_eq] at h
  generalize 10 ^ 60 = m at h
  omega
theorem nat_t60 {a : Nat} (h : a < 10 ^ 60) : (a : Int) < T60 := by
  rw [t60_eq]
  exact Int.ofNat_lt.mpr h
def entP (e : Nm × Int × Int) : List Nat := joinL [32] [e.1, 43 :: numL e.2.1.toNat, 45 :: numL e.2.2.toNat]
def GoodX (e : Nm × Int × Int) : Prop := GoodN e.1 ∧ 0 ≤ e.2.1 ∧ e.2.1 < T60 ∧ 0 ≤ e.2.2 ∧ e.2.2 < T60 ∧ ¬(e.2.1 = 0 ∧ e.2.2 = 0)
def WrP (L : List Nat) (p : Pg) : Prop := p ≠ [] ∧ (∀ e ∈ p, GoodX e) ∧ (p.map (·.1)).Pairwise (· < ·) ∧ L = joinL [44, 32] (p.map entP)
theorem ent_words {e : Nm × Int × Int} (h : GoodX e) : spl [32] 0 [] (entP e) = [e.1, 43 :: numL e.2.1.toNat, 45 :: numL e.2.2.toNat] := by
  refine spl_join (s := 32) (S := []) (by simp) fun p hp => ?_
  simp only [List.mem_cons, List.not_mem_nil, or_false] at hp
  rcases hp with rfl | rfl | rfl
  · intro hm
    have := h.1.2.2 _ hm
    unfold lowC' at this
    omega
  · intro hm
    rcases List.mem_cons.mp hm with z | z
    · exact absurd z (by decide)
    · exact numL_free (by decide) z
  · intro hm
    rcases List.mem_cons.mp hm with z | z
    · exact absurd z (by decide)
    · exact numL_free (by decide) z
theorem ent_eq (e : Nm × Int × Int) : entP e = e.1 ++ ([32] ++ ((43 :: numL e.2.1.toNat) ++ ([32] ++ (45 :: numL e.2.2.toNat)))) := by
  unfold entP
  simp [joinL]
theorem ent_free {e : Nm × Int × Int} (h : GoodX e) : 44 ∉ entP e := by
  rw [ent_eq]
  intro hm
  rcases List.mem_append.mp hm with hm | hm
  · have := h.1.2.2 _ hm
    unfold lowC' at this
    omega
  rcases List.mem_append.mp hm with hm | hm
  · exact absurd hm (by decide)
  rcases List.mem_append.mp hm with hm | hm
  · rcases List.mem_cons.mp hm with z | z
    · exact absurd z (by decide)
    · exact numL_free (by decide) z
  rcases List.mem_append.mp hm with hm | hm
  · exact absurd hm (by decide)
  · rcases List.mem_cons.mp hm with z | z
    · exact absurd z (by decide)
    · exact numL_free (by decide) z
theorem wr_parts {L : List Nat} {p : Pg} (h : WrP L p) : spl [44, 32] 0 [] L = p.map entP := by
  rw [h.2.2.2]
  refine spl_join (s := 44) (S := [32]) (by simpa using h.1) fun x hx => ?_
  obtain ⟨e, he, rfl⟩ := List.mem_map.mp hx
  exact ent_free (h.2.1 e he)
def RdE (c : List Nat) (e : Nm × Int × Int) : Prop := ∃ u v, spl [32] 0 [] c = [e.1, u, v] ∧ RdOk 43 u ∧ RdOk 45 v ∧ e.2.1 = (NumText.digitsVal (u.drop 1) : Nat) ∧ e.2.2 = (NumText.digitsVal (v.drop 1) : Nat)
theorem rd_num {c a : Nat} (h : a < 10 ^ 60) : RdOk c (c :: numL a) := by
  have h1 := numL_len (by decide) h
  have h2 : 0 < (numL a).length := List.length_pos_iff.mpr (numL_ne a)
  exact ⟨rfl, by show 1 ≤ (numL a).length; omega, by show (numL a).length ≤ 60; omega, numL_digits a⟩
theorem rd_ent {e : Nm × Int × Int} (h : GoodX e) : RdE (entP e) e := by
  obtain ⟨_, h1, h2, h3, h4, _⟩ := id h
  refine ⟨_, _, ent_words h, rd_num (t60_nat h1 h2), rd_num (t60_nat h3 h4), ?_, ?_⟩
  · show e.2.1 = (NumText.digitsVal (numL e.2.1.toNat) : Nat)
    rw [numL_val]
    omega
  · show e.2.2 = (NumText.digitsVal (numL e.2.2.toNat) : Nat)
    rw [numL_val]
    omega
theorem rd_fun {c : List Nat} {e f : Nm × Int × Int} (h : RdE c e) (g : RdE c f) : e = f := by
  obtain ⟨u, v, h1, _, _, h2, h3⟩ := h
  obtain ⟨x, y, g1, _, _, g2, g3⟩ := g
  rw [h1] at g1
  simp only [List.cons.injEq, and_true] at g1
  obtain ⟨z1, rfl, rfl⟩ := g1
  obtain ⟨n, a, b⟩ := e
  obtain ⟨m, a', b'⟩ := f
  simp only at z1 h2 h3 g2 g3
  rw [z1, h2, h3, g2, g3]
/-- the law's reading of a part -/
def LwE (last c : List Nat) (e : Nm × Int × Int) : Prop := ∃ u v, spl [32] 0 [] c = [e.1, u, v] ∧ GoodN e.1 ∧ last < e.1 ∧ NumW 43 u ∧ NumW 45 v ∧ e.2.1 = (NumText.digitsVal (u.drop 1) : Nat) ∧ e.2.2 = (NumText.digitsVal (v.drop 1) : Nat) ∧ ¬(e.2.1 = 0 ∧ e.2.2 = 0)
theorem lw_ent {last c : List Nat} {e : Nm × Int × Int} (h : LwE last c e) : GoodX e ∧ c = entP e ∧ last < e.1 := by
  obtain ⟨u, v, h1, h2, h3, h4, h5, h6, h7, h8⟩ := h
  obtain ⟨a, ha, rfl⟩ := numW_iff.mp h4
  obtain ⟨b, hb, rfl⟩ := numW_iff.mp h5
  have e6 : e.2.1 = (a : Int) := h6.trans (by rw [numW_val])
  have e7 : e.2.2 = (b : Int) := h7.trans (by rw [numW_val])
  refine ⟨⟨h2, by omega, by rw [e6]; exact nat_t60 ha, by omega, by rw [e7]; exact nat_t60 hb, h8⟩, ?_, h3⟩
  have := join_spl (S := [32]) (by simp) c 0 []
  rw [List.drop_zero, List.nil_append] at this
  rw [← this, h1]
  unfold entP
  rw [e6, e7]
  rfl
theorem ent_lw {last : List Nat} {e : Nm × Int × Int} (h : GoodX e) (hl : last < e.1) : LwE last (entP e) e := by
  obtain ⟨h0, h1, h2, h3, h4, h5⟩ := id h
  refine ⟨_, _, ent_words h, h0, hl, numW_iff.mpr ⟨_, t60_nat h1 h2, rfl⟩, numW_iff.mpr ⟨_, t60_nat h3 h4, rfl⟩, ?_, ?_, h5⟩
  · rw [numW_val]
    omega
  · rw [numW_val]
    omega
theorem wr_rd {L : List Nat} {p : Pg} (h : WrP L p) : Paired RdE (spl [44, 32] 0 [] L) p := by
  rw [wr_parts h]
  have := h.2.1
  clear h
  induction p with
  | nil => exact .nil
  | cons e p ih => exact .cons (rd_ent (this e List.mem_cons_self)) (ih fun x hx => this x (List.mem_cons_of_mem _ hx))
theorem paired_uniq {l : List (List Nat)} : ∀ {p q : Pg}, Paired RdE l p → Paired RdE l q → p = q := by
  induction l with
  | nil =>
    intro p q h g
    cases h
    cases g
    rfl
  | cons c l ih =>
    intro p q h g
    cases h with
    | cons h1 h2 => cases g with
      | cons g1 g2 => rw [rd_fun h1 g1, ih h2 g2]
theorem paired_get {α β : Type} {F : α → β → Prop} {l : List α} {m : List β} (h : Paired F l m) {i : Nat} {x : α} (hx : l[i]? = some x) : ∃ y, m[i]? = some y ∧ F x y := by
  induction h generalizing i with
  | nil => simp at hx
  | cons h t ih =>
    cases i with
    | zero =>
      obtain rfl := Option.some.inj hx
      exact ⟨_, rfl, h⟩
    | succ i => exact ih (by simpa using hx)
theorem paired_snoc {α β : Type} {F : α → β → Prop} {l : List α} {m : List β} {x : α} {y : β} (h : Paired F l m) (hx : F x y) : Paired F (l ++ [x]) (m ++ [y]) := by
  induction h with
  | nil => exact .cons hx .nil
  | cons h t ih => exact .cons h ih
theorem take_snoc' {α : Type} {l : List α} {i : Nat} {x : α} (h : l[i]? = some x) : l.take (i + 1) = l.take i ++ [x] := by rw [List.take_succ, h]; rfl
def foldP (es : Pg) : Pg := es.foldl (fun p e => putP p e.1 e.2) []
theorem fold_snoc (es : Pg) (e : Nm × Int × Int) : foldP (es ++ [e]) = putP (foldP es) e.1 e.2 := by
  unfold foldP
  rw [List.foldl_append]
  rfl
theorem putP_new' {p : Pg} {n : Nm} {s : Int × Int} (h : n ∉ p.map (·.1)) : putP p n s = p ++ [(n, s)] := by
  unfold putP
  rw [if_neg]
  intro z
  obtain ⟨e, he, h2⟩ := List.any_eq_true.mp z
  exact h (List.mem_map.mpr ⟨e, he, of_decide_eq_true h2⟩)
theorem fold_id : ∀ (n : Nat) (p : Pg), p.length = n → (p.map (·.1)).Nodup → foldP p = p := by
  intro n
  induction n with
  | zero =>
    intro p h _
    rw [List.length_eq_zero_iff.mp h]
    rfl
  | succ n ih =>
    intro p h hn
    have hne : p ≠ [] := fun z => by rw [z] at h; cases h
    rw [← List.dropLast_concat_getLast hne] at hn ⊢
    rw [List.map_append, List.map_singleton, List.nodup_append] at hn
    rw [fold_snoc, ih _ (by rw [List.length_dropLast, h]; rfl) hn.1, putP_new']
    intro z
    exact hn.2.2 _ z _ (List.mem_singleton.mpr rfl) rfl
theorem fold_len (es : Pg) : (foldP es).length ≤ es.length := by
  have : ∀ (es q : Pg), (es.foldl (fun p e => putP p e.1 e.2) q).length ≤ q.length + es.length := by
    intro es
    induction es with
    | nil => intro q; exact Nat.le_refl _
    | cons e es ih =>
      intro q
      have h1 := ih (putP q e.1 e.2)
      have h2 := putP_len (p := q) (n := e.1) (s := e.2)
      rw [List.foldl_cons, List.length_cons]
      omega
  have := this es []
  rw [List.length_nil, Nat.zero_add] at this
  exact this
theorem fold_nd (es : Pg) : ((foldP es).map (·.1)).Nodup := by
  have : ∀ (es q : Pg), (q.map (·.1)).Nodup → ((es.foldl (fun p e => putP p e.1 e.2) q).map (·.1)).Nodup := by
    intro es
    induction es with
    | nil => intro q h; exact h
    | cons e es ih => intro q h; exact ih _ (putP_nd h)
  exact this es [] List.nodup_nil
theorem lt_irr (a : List Nat) : ¬ a < a := List.lt_irrefl a
theorem pw_nd {l : List Nm} (h : l.Pairwise (· < ·)) : l.Nodup := h.imp fun {a b} hab z => by rw [z] at hab; exact lt_irr _ hab
theorem wr_fold {L : List Nat} {p : Pg} (h : WrP L p) : foldP p = p := fold_id _ p rfl (pw_nd h.2.2.1)
theorem wr_ris {L : List Nat} {p : Pg} (h : WrP L p) : RisingN (p.map (·.1)) := h.2.2.1.imp fun {a b} hab z => lt_irr _ (List.lt_trans hab z)
/-! ### how long -/
theorem joinL_mem {S : List Nat} : ∀ {ps : List (List Nat)} {x : List Nat}, x ∈ ps → x.length ≤ (joinL S ps).length
  | [p], x, h => by
    rw [List.mem_singleton.mp h]
    exact Nat.le_refl _
  | p :: q :: r, x, h => by
    show x.length ≤ (p ++ (S ++ joinL S (q :: r))).length
    rw [List.length_append, List.length_append]
    rcases List.mem_cons.mp h with rfl | h
    · omega
    · have := joinL_mem (S := S) h
      omega
theorem joinL_cnt {S : List Nat} : ∀ (ps : List (List Nat)), ps.length * S.length ≤ (joinL S ps).length + S.length
  | [] => by simp
  | [p] => by simp
  | p :: q :: r => by
    show _ ≤ (p ++ (S ++ joinL S (q :: r))).length + S.length
    have := joinL_cnt (S := S) (q :: r)
    rw [List.length_append, List.length_append, List.length_cons, Nat.succ_mul]
    omega
theorem spl_back {S : List Nat} (hS : S ≠ []) (L : List Nat) : joinL S (spl S 0 [] L) = L := by
  have := join_spl hS L 0 []
  rw [List.drop_zero, List.nil_append] at this
  exact this
theorem part_len {S L x : List Nat} (hS : S ≠ []) (h : x ∈ spl S 0 [] L) : x.length ≤ L.length := by
  have := joinL_mem (S := S) h
  rw [spl_back hS] at this
  exact this
theorem parts_cnt {s : Nat} {S L : List Nat} : (spl (s :: S) 0 [] L).length ≤ L.length + 1 := by
  have := joinL_cnt (S := s :: S) (spl (s :: S) 0 [] L)
  rw [spl_back (by simp), List.length_cons] at this
  generalize (spl (s :: S) 0 [] L).length = a at this
  generalize S.length = b at this
  by_cases h : a ≤ L.length + 1
  · exact h
  · exfalso
    have h2 : (L.length + 2) * (b + 1) ≤ a * (b + 1) := Nat.mul_le_mul_right _ (by omega)
    rw [Nat.add_mul] at h2
    have h3 : L.length ≤ L.length * (b + 1) := Nat.le_mul_of_pos_right _ (by omega)
    omega
theorem ent_len {e : Nm × Int × Int} (h : GoodX e) : 7 ≤ (entP e).length := by
  have h1 := h.1.1
  have h2 : 0 < (numL e.2.1.toNat).length := List.length_pos_iff.mpr (numL_ne _)
  have h3 : 0 < (numL e.2.2.toNat).length := List.length_pos_iff.mpr (numL_ne _)
  rw [ent_eq]
  simp only [List.length_append, List.length_cons, List.length_nil]
  omega
theorem joinL_sum {S : List Nat} {k : Nat} : ∀ (ps : List (List Nat)), (∀ x ∈ ps, k ≤ x.length) → ps.length * (k + S.length) ≤ (joinL S ps).length + S.length
  | [], _ => by simp
  | [p], h => by
    have := h p (by simp)
    show 1 * _ ≤ p.length + _
    omega
  | p :: q :: r, h => by
    have h1 := joinL_sum (S := S) (k := k) (q :: r) fun x hx => h x (List.mem_cons_of_mem _ hx)
    have h2 := h p (by simp)
    show _ ≤ (p ++ (S ++ joinL S (q :: r))).length + S.length
    rw [List.length_append, List.length_append, List.length_cons, Nat.succ_mul]
    omega
theorem wr_len {L : List Nat} {p : Pg} (h : WrP L p) (hL : L.length ≤ 1000) : p.length ≤ 200 := by
  have := joinL_sum (S := [44, 32]) (k := 7) (p.map entP) fun x hx => by
    obtain ⟨e, he, rfl⟩ := List.mem_map.mp hx
    exact ent_len (h.2.1 e he)
  rw [← h.2.2.2, List.length_map] at this
  simp only [List.length_cons, List.length_nil] at this
  omega
/-! ### what is due -/
def nobL : List Nat := [110, 111, 98, 111, 100, 121]
def Due (L : List Nat) (p : Pg) : Prop := (L = nobL ∧ p = []) ∨ (L ≠ nobL ∧ WrP L p)
theorem due_uniq {L : List Nat} {p q : Pg} (h : Due L p) (g : Due L q) : p = q := by
  rcases h with ⟨h1, rfl⟩ | ⟨h1, h2⟩
  · rcases g with ⟨_, rfl⟩ | ⟨g1, _⟩
    · rfl
    · exact absurd h1 g1
  · rcases g with ⟨g1, _⟩ | ⟨_, g2⟩
    · exact absurd g1 h1
    · exact paired_uniq (wr_rd h2) (wr_rd g2)
def wrN (q : Pg) (ns : List Nm) : List Nat := if q = [] then nobL else joinL [44, 32] (ns.map fun n => entP (n, (getP q n).getD (0, 0)))
theorem wrN_self {L : List Nat} {p : Pg} (h : WrP L p) : wrN p (p.map (·.1)) = L := by
  unfold wrN
  rw [if_neg h.1, h.2.2.2, List.map_map]
  congr 1
  refine List.map_congr_left fun e he => ?_
  show entP (e.1, (getP p e.1).getD (0, 0)) = entP e
  rw [getP_mem (pw_nd h.2.2.1) e he]
  rfl
theorem strict {ns : List Nm} (hr : RisingN ns) (hn : ns.Nodup) : ns.Pairwise (· < ·) := by
  have : ns.Pairwise fun a b => (¬ b < a) ∧ a ≠ b := hr.and hn
  refine this.imp fun {a b} ⟨h1, h2⟩ => ?_
  by_cases h3 : a < b
  · exact h3
  · exact absurd (List.le_antisymm h1 h3) h2
theorem wr_back {L : List Nat} {q : Pg} {ns : List Nm} (hq : q ≠ []) (hg : ∀ e ∈ q, GoodX e) (hnd : (q.map (·.1)).Nodup) (hp : ns.Perm (q.map (·.1))) (hr : RisingN ns) (h : wrN q ns = L) : WrP L (ns.map fun n => (n, (getP q n).getD (0, 0))) := by
  have em : (ns.map fun n => ((n, (getP q n).getD (0, 0)) : Nm × Int × Int)).map (·.1) = ns := by
    rw [List.map_map]
    exact List.map_id' ns
  refine ⟨fun z => ?_, fun e he => ?_, ?_, ?_⟩
  · have h1 := hp.length_eq
    rw [List.map_eq_nil_iff] at z
    rw [z, List.length_map] at h1
    exact hq (List.length_eq_zero_iff.mp h1.symm)
  · obtain ⟨n, hn, rfl⟩ := List.mem_map.mp he
    obtain ⟨f, hf, rfl⟩ := List.mem_map.mp (hp.mem_iff.mp hn)
    rw [getP_mem hnd f hf]
    exact hg f hf
  · rw [em]
    exact strict hr (hp.nodup_iff.mpr hnd)
  · unfold wrN at h
    rw [if_neg hq] at h
    rw [← h, List.map_map]
    rfl
theorem putP_mem {p : Pg} {n : Nm} {s : Int × Int} {e : Nm × Int × Int} (h : e ∈ putP p n s) : e ∈ p ∨ e = (n, s) := by
  unfold putP at h
  split at h
  · obtain ⟨x, hx, rfl⟩ := List.mem_map.mp h
    by_cases c : x.1 = n
    · rw [if_pos c]
      exact .inr (by rw [c])
    · rw [if_neg c]
      exact .inl hx
  · rcases List.mem_append.mp h with h | h
    · exact .inl h
    · exact .inr (List.mem_singleton.mp h)
theorem fold_mem {es : Pg} {e : Nm × Int × Int} (h : e ∈ foldP es) : e ∈ es := by
  have : ∀ (es q : Pg), e ∈ es.foldl (fun p e => putP p e.1 e.2) q → e ∈ q ∨ e ∈ es := by
    intro es
    induction es with
    | nil => intro q h; exact .inl h
    | cons f es ih =>
      intro q h
      rcases ih _ h with h | h
      · rcases putP_mem h with h | h
        · exact .inl h
        · exact .inr (by rw [h]; exact List.mem_cons_self)
      · exact .inr (List.mem_cons_of_mem _ h)
  rcases this es [] h with h | h
  · cases h
  · exact h
theorem paired_memR {α β : Type} {F : α → β → Prop} : ∀ {l : List α} {m : List β}, Paired F l m → ∀ y ∈ m, ∃ x ∈ l, F x y
  | _, _, .nil, x, h => by cases h
  | _, _, .cons r t, y, h => by
    rcases List.mem_cons.mp h with rfl | h
    · exact ⟨_, List.mem_cons_self, r⟩
    · obtain ⟨x, h1, h2⟩ := paired_memR t y h
      exact ⟨x, List.mem_cons_of_mem _ h1, h2⟩
theorem paired_memL {α β : Type} {F : α → β → Prop} : ∀ {l : List α} {m : List β}, Paired F l m → ∀ x ∈ l, ∃ y ∈ m, F x y
  | _, _, .nil, x, h => by cases h
  | _, _, .cons r t, x, h => by
    rcases List.mem_cons.mp h with rfl | h
    · exact ⟨_, List.mem_cons_self, r⟩
    · obtain ⟨y, h1, h2⟩ := paired_memL t x h
      exact ⟨y, List.mem_cons_of_mem _ h1, h2⟩
theorem rd_name {L : List Nat} {i : Nat} {es : Pg} (h : Paired RdE ((spl [44, 32] 0 [] L).take i) es) (hL : L.length ≤ 1000) : ∀ e ∈ es, e.1.length ≤ 1000 := fun e he => by
  obtain ⟨c, hc, u, v, h1, _⟩ := paired_memR h e he
  have h2 : e.1 ∈ spl [32] 0 [] c := by rw [h1]; exact List.mem_cons_self
  have h3 := part_len (by simp) h2
  have h4 := part_len (by simp) (List.mem_of_mem_take hc)
  omega
theorem spl_ne {S : List Nat} : ∀ (L : List Nat) (k : Nat) (acc : List Nat), spl S k acc L ≠ [] := by
  intro L
  induction L with
  | nil =>
    intro k acc
    rw [spl_nil]
    simp
  | cons c r ih =>
    intro k acc
    cases k with
    | zero =>
      by_cases h : pre S (c :: r) = true
      · rw [spl_hit h]
        simp
      · rw [spl_miss (by simpa using h)]
        exact ih _ _
    | succ k => exact ih k acc
/-! ### names in order -/
def leN (a b : Nm) : Bool := !decide (b < a)
def srtN (l : List Nm) : List Nm := l.mergeSort leN
theorem leN_iff {a b : Nm} : leN a b = true ↔ a ≤ b := by
  unfold leN
  rw [Bool.not_eq_true', decide_eq_false_iff_not]
  exact Iff.rfl
theorem srt_perm (l : List Nm) : (srtN l).Perm l := List.mergeSort_perm l leN
theorem srt_ris (l : List Nm) : RisingN (srtN l) := by
  have tr : ∀ a b c : Nm, leN a b = true → leN b c = true → leN a c = true := fun a b c h1 h2 => leN_iff.mpr (List.le_trans (leN_iff.mp h1) (leN_iff.mp h2))
  have tt : ∀ a b : Nm, (leN a b || leN b a) = true := fun a b => by
    rw [Bool.or_eq_true, leN_iff, leN_iff]
    exact List.le_total a b
  have := List.pairwise_mergeSort tr tt l
  exact this.imp fun {a b} h => leN_iff.mp h

end
--CUT notee
/-! ### one entry of a text: read, written -/
def rMulStr : R2 := fun x y H Q => ∃ (z : Str) (b : Bool), x = .str z ∧ y = .int (if b = true then 1 else 0) ∧ Q (.str (if b = true then z else Str.empty)) H
theorem op_mul_str {X : Cx} : OpR X (binaryOp .Mult) rMulStr := by
  intro pins s σ H x y v u Q I rx ry h
  obtain ⟨z, b, rfl, rfl, q⟩ := h
  obtain ⟨t, rfl⟩ := rx
  obtain ⟨t', rfl⟩ := ry
  cases b with
  | false => exact PySem.P.mul_str_none (by decide) (by decide) ⟨.str Str.empty, H, I.tok _, ⟨_, rfl⟩, q⟩
  | true => exact PySem.P.mul_str (by decide) (fun _ h => by cases h) (fun _ h => by cases h) ⟨.str z, H, I, ⟨_, rfl⟩, q⟩
section
variable {K : PySem.W.Frag} {σ : L2.St} {H : Hp} {t0 a1 b1 a2 b2 ta te : TE} {N : Addr} {n u v : List Nat} {E : XK} {Q : VK}
theorem rd_two (h0 : Ev t0 σ H (.str (ofL n))) (c1 : Ev a1 σ H (.str (ofL [43]))) (w1 : Ev b1 σ H (.str (ofL u))) (c2 : Ev a2 σ H (.str (ofL [45]))) (w2 : Ev b2 σ H (.str (ofL v))) (hu : u.length ≤ 2000) (hv : v.length ≤ 2000)
    (k1 : RdOk 43 u → RdOk 45 v → ∀ p q H', Ex H H' → H' q = some (.tup [.int (PySem.NumText.digitsVal (u.drop 1) : Nat), .int (PySem.NumText.digitsVal (v.drop 1) : Nat)]) → H' p = some (.tup [.str (ofL n), .ref q]) → Q (.ref p) H')
    (k2 : ¬ (RdOk 43 u ∧ RdOk 45 v) → ∀ H', Ex H H' → E (.ref N) none H') :
    tTup (tCons t0 (tCons (tTup (tCons (tCall (spReadNo N) [] E (tCons a1 (tCons b1 tNil))) (tCons (tCall (spReadNo N) [] E (tCons a2 (tCons b2 tNil))) tNil))) tNil)) σ H Q :=
  h0 H (Ex.refl H) _ fun H1 e1 => c1 H1 e1 _ fun H2 e2 => w1 H2 (e1.trans e2) _ fun H3 e3 => ⟨43, u, rfl, hu, fun r1 v1 H4 e4 hv1 => by
    obtain rfl : v1 = _ := hv1
    have e04 := ((e1.trans e2).trans e3).trans e4
    exact c2 H4 e04 _ fun H5 e5 => w2 H5 (e04.trans e5) _ fun H6 e6 => ⟨45, v, rfl, hv, fun r2 v2 H7 e7 hv2 => by
      obtain rfl : v2 = _ := hv2
      have e07 := ((e04.trans e5).trans e6).trans e7
      exact ⟨Nat.le_of_ble_eq_true rfl, fun q hq => ⟨Nat.le_of_ble_eq_true rfl, fun p hp => k1 r1 r2 p q _ ((e07.trans (Ex.new hq)).trans (Ex.new hp)) (by rw [upd_ne (ne_of_none upd_same hp)]; exact upd_same) upd_same⟩⟩, fun r2 H7 e7 => k2 (fun z => r2 z.2) H7 (((e04.trans e5).trans e6).trans e7)⟩, fun r1 H4 e4 => k2 (fun z => r1 z.1) H4 (((e1.trans e2).trans e3).trans e4)⟩
open TL in
theorem el_split {l b : List Nat} {z : Str} (hb : b ≠ []) (hk : b.all (· < 256) = true) (hz : z = ofL b) (h : Ev ta σ H (.str (ofL l))) (hl : l.length ≤ 90000) :
    EvL (tBM K "str" (fun x xs H Q => ∃ a b, x = .str a ∧ xs = [.str b] ∧ (b.length == 0) = false ∧ a.length + 2 ≤ sizeLine ∧ rNewStrs (Txt.split a b) H Q) ta (tCons (tC (.str z)) tNil)) σ H ((spl b 0 [] l).map fun p => V.str (ofL p)) := fun H1 e Q q =>
  h H1 e _ fun H2 e2 => ⟨rfl, ofL l, ofL b, rfl, by rw [hz], by
    rw [ofL_len]
    cases b with
    | nil => exact absurd rfl hb
    | cons x r => rfl, by rw [ofL_len]; exact sz_of (by omega), fun p hp => by
    rw [split_ofL hb hk, List.map_map]
    exact q _ _ (fresh_back e2 hp) (e2.trans (Ex.new hp)) upd_same⟩
theorem et_tru {x : V} {k : Bool} (h : Ev ta σ H x) (hk : ∀ H1, Ex H H1 → TruV K x H1 k) : EvT (fun σ H Q => ta σ H fun x H' => ∃ k, TruV K x H' k ∧ Q k H') σ H k := fun H1 e Q q =>
  h H1 e _ fun H2 e2 => ⟨k, hk H2 (e.trans e2), q H2 e2⟩
theorem fm_str {y : Str} (h : Ev ta σ H (.str y)) (hl : y.length ≤ 100000) : Ev (tFmt ta) σ H (.str y) := fun H1 e Q q => h H1 e _ fun H2 e2 => .inl ⟨y, rfl, sz_of hl, q H2 e2⟩
theorem fm_int {i : Int} (h : Ev ta σ H (.int i)) (hl : i.natAbs.log2 < 1920) : Ev (tFmt ta) σ H (.str (toString i)) := fun H1 e Q q => h H1 e _ fun H2 e2 => .inr ⟨i, rfl, hl, q H2 e2⟩
/-- the texts one behind the other -/
def Js (ts : List TE) (acc : Str) (σ : L2.St) (H : Hp) (z : Str) : Prop := ∀ H1, Ex H H1 → ∀ Q : Str → Hp → Prop, (∀ H2, Ex H1 H2 → Q z H2) → tJs ts acc σ H1 Q
theorem js_nil {acc : Str} : Js [] acc σ H acc := fun H1 _ Q q => q H1 (Ex.refl H1)
theorem js_cons {t : TE} {ts : List TE} {acc y z : Str} (h : Ev t σ H (.str y)) (hl : (acc ++ y).length ≤ 100000) (hr : Js ts (acc ++ y) σ H z) : Js (t :: ts) acc σ H z := fun H1 e Q q =>
  h H1 e _ fun H2 e2 => ⟨y, rfl, sz_of hl, hr H2 (e.trans e2) Q fun H3 e3 => q H3 (e2.trans e3)⟩
theorem ev_js {ts : List TE} {z : Str} (h : Js ts Str.empty σ H z) : Ev (fun σ H Q => tJs ts Str.empty σ H fun out H1 => Q (.str out) H1) σ H (.str z) := fun H1 e Q q => h H1 e (fun out H1 => Q (.str out) H1) q
end
theorem num_ofL {a : Int} (h : 0 ≤ a) : (Str.ofString (toString a) : Str) = ofL (TL.numL a.toNat) := by
  have := SX.num_S a.toNat
  rw [show ((a.toNat : Nat) : Int) = a by omega] at this
  exact this
theorem log_t60 {a : Int} (h0 : 0 ≤ a) (h : a < T60) : a.natAbs.log2 < 1920 := by
  have h1 := t60_nat h0 h
  have : a.natAbs < 2 ^ 1920 := Nat.lt_trans (by omega) (by decide +kernel : 10 ^ 60 < 2 ^ 1920)
  by_cases hz : a.natAbs = 0
  · rw [hz]
    decide +kernel
  · exact (Nat.log2_lt hz).mpr this

--CUT notee2
section
variable {P : Program} {w : World} {K : PySem.W.Frag} {mg : Str → Option Value} {base : Heap}
abbrev spEnt (K : PySem.W.Frag) : Sp := SpF (fun x : Addr × Nm × Int × Int => [.str (ofL x.2.1), .ref x.1]) (fun x H => SqT K H x.1 [.int x.2.2.1, .int x.2.2.2] ∧ GoodX x.2) (fun x _ => Is (.str (ofL (entP x.2))))
theorem ok_entry (T : Txt K mg) : FnOk P w K mg base CX0 1 T.a_entry T.d_entry ["name", "share"] (spEnt K) := by
  refine T.h_entry.F.ok sc_entry (fun vs H Q E h => ?_) (fun cdv A outer s H vs Q E hr h => ?_)
  · obtain ⟨x, rfl, _⟩ := h
    rfl
  · obtain ⟨⟨q, n, a, b⟩, rfl, ⟨hq, hg⟩, k⟩ := h
    simp only at hq k
    refine ⟨_, (pss_one (ps_ret (pe_joined (.cons (pe_fmt (pv 0)) (.cons pe_str (.cons (pe_fmt (pe_ix ix_tup (pv 1) pe_int (fun _ _ => rfl))) (.cons pe_str (.cons (pe_fmt (pe_ix ix_tup (pv 1) pe_int (fun _ _ => rfl))) .nil)))))))), ?_⟩
    obtain ⟨hn, h1, h2, h3, h4, _⟩ := id hg
    simp only at hn h1 h2 h3 h4
    have l1 := TL.numL_len (by decide) (t60_nat h1 h2)
    have l2 := TL.numL_len (by decide) (t60_nat h3 h4)
    have l0 := hn.2.1
    have ew : Ev (tVar 0) (L2.start ["name", "share"] [.str (ofL n), .ref q]) H (.str (ofL n)) := ev_var rfl
    have eplus : (Str.ofString " +" : Str) = ofL [32, 43] := by decide +kernel
    have eminus : (Str.ofString " -" : Str) = ofL [32, 45] := by decide +kernel
    refine s_ret (v := .str (ofL (entP (n, a, b)))) (ev_js ?_) fun H1 e1 => k _ _ e1 rfl
    have e0 : ofL (entP (n, a, b)) = (((Str.empty ++ ofL n) ++ ofL [32, 43]) ++ ofL (TL.numL a.toNat)) ++ ofL [32, 45] ++ ofL (TL.numL b.toNat) := by
      have : (Str.empty : Str) = ofL [] := rfl
      rw [this, ofL_app, ofL_app, ofL_app, ofL_app, ofL_app, ent_eq]
      congr 1
      simp
    rw [e0]
    have emp : (Str.empty : Str) = ofL [] := rfl
    refine js_cons (y := ofL n) (fm_str (ev_var rfl) (by rw [ofL_len]; omega)) (by rw [emp, ofL_app, ofL_len]; simp only [List.length_append, List.length_nil]; omega) ?_
    refine js_cons (ev_is ev_c (congrArg V.str eplus)) (by rw [emp, ofL_app, ofL_app, ofL_len]; simp only [List.length_append, List.length_nil, List.length_cons]; omega) ?_
    refine js_cons (ev_is (fm_int (ev_op (ev_var rfl) ev_c (rv_ixT hq rfl)) (log_t60 h1 h2)) (congrArg V.str (num_ofL h1))) (by rw [emp, ofL_app, ofL_app, ofL_app, ofL_len]; simp only [List.length_append, List.length_nil, List.length_cons]; omega) ?_
    refine js_cons (ev_is ev_c (congrArg V.str eminus)) (by rw [emp, ofL_app, ofL_app, ofL_app, ofL_app, ofL_len]; simp only [List.length_append, List.length_nil, List.length_cons]; omega) ?_
    refine js_cons (ev_is (fm_int (ev_op (ev_var rfl) ev_c (rv_ixT hq rfl)) (log_t60 h3 h4)) (congrArg V.str (num_ofL h3))) (by rw [emp, ofL_app, ofL_app, ofL_app, ofL_app, ofL_app, ofL_len]; simp only [List.length_append, List.length_nil, List.length_cons]; omega) ?_
    exact js_nil
theorem sx_entry {H : Hp} {q : Addr} {e : Nm × Int × Int} (hq : SqT K H q [.int e.2.1, .int e.2.2]) (hg : GoodX e) : SpX (spEnt K) [.str (ofL e.1), .ref q] H (Is (.str (ofL (entP e)))) := sx_of (q, e) (fun _ x => ⟨ex_t x hq, hg⟩) fun _ _ _ _ _ h => h
end

--CUT notee3
section
variable {P : Program} {w : World} {K : PySem.W.Frag} {mg : Str → Option Value} {base : Heap}
def spRdEnt (K : PySem.W.Frag) (N : Addr) : Sp := fun vs H Q E => ∃ c : List Nat, vs = [.str (ofL c)] ∧ c.length ≤ 2000 ∧
  (∀ e, RdE c e → Ret (fun v H => ∃ p q, v = .ref p ∧ SqT K H p [.str (ofL e.1), .ref q] ∧ SqT K H q [.int e.2.1, .int e.2.2]) H Q) ∧ ((¬ ∃ e, RdE c e) → ∀ H', Ex H H' → E (.ref N) none H')
theorem ok_read_entry (T : Txt K mg) : FnOk P w K mg base (L2.CX P w) 2 T.a_read_entry T.d_read_entry ["entry"] (spRdEnt K T.c_NoNote) := by
  refine T.h_read_entry.F.okX sc_read_entry (fun vs H Q E h => ?_) (fun cdv A outer s H vs Q E hr h => ?_)
  · obtain ⟨c, rfl, _⟩ := h
    rfl
  · obtain ⟨c, rfl, hl, k1, k2⟩ := h
    refine ⟨_, (pss_cons (ps_set (i := 1) sc_read_entry.nd rfl (by first | exact Or.inl rfl | exact Or.inr rfl) (pe_bm PySem.F.plainAttrs_str PySem.F.slot_str_split PySem.F.type_str_split mt_split (pv 0) (pa_cons pe_str pa_nil))) (pss_cons (ps_if (pt_cmpR op_ne (pe_callB call_len_seq (by rfl) T.n_len PySem.boot_len (pa_cons (pv 1) pa_nil)) pe_int (nomark _)) (pss_one (ps_raise rfl (takes_of rfl rfl rfl rfl) (pmk_own PySem.F.excBase_ValueError T.x_NoNote.q T.x_NoNote.g T.x_NoNote.kp (raises_own T.x_NoNote.b T.x_NoNote.t) rfl))) pss_nil) (pss_one (ps_ret (pe_tup (pa_cons (pe_ix ix_list (pv 1) pe_int (fun _ _ => rfl)) (pa_cons (pe_tup (pa_cons (pe_call (ok_read_number T) (hr.mono (by decide)) rfl T.h_read_number.m T.h_read_number.F.kp T.h_read_number.b .nil (passes_call (E := E) (takes_of rfl rfl rfl rfl) (fun _ _ _ _ h => h)) (pa_cons pe_str (pa_cons (pe_ix ix_list (pv 1) pe_int (fun _ _ => rfl)) pa_nil))) (pa_cons (pe_call (ok_read_number T) (hr.mono (by decide)) rfl T.h_read_number.m T.h_read_number.F.kp T.h_read_number.b .nil (passes_call (E := E) (takes_of rfl rfl rfl rfl) (fun _ _ _ _ h => h)) (pa_cons pe_str (pa_cons (pe_ix ix_list (pv 1) pe_int (fun _ _ => rfl)) pa_nil))) pa_nil))) pa_nil))))))), ?_⟩
    refine q_asgL (el_split (K := K) (b := [32]) (by simp) (by decide) (by decide +kernel) (ev_var rfl) (by omega)) fun l H1 hl0 e1 hl1 => ?_
    have hS : ([32] : List Nat) ≠ [] := by simp
    have hpl : ∀ x ∈ TL.spl [32] 0 [] c, x.length ≤ 2000 := fun x hx => Nat.le_trans (part_len hS hx) hl
    generalize hW : TL.spl [32] 0 [] c = ws at hl1 hpl
    refine q_when (b := !decide (V.int (ws.length : Int) = V.int 3)) (et_test (ev_op (ev_is (ev_cb (ea_cons (ev_var rfl) ea_nil) (rc_lenL (sq_of hl1))) (by rw [List.length_map])) ev_c (rv_ne rfl))) (fun hb H2 e2 => ?_) (fun hb H2 e2 => ?_)
    · refine k2 (fun ⟨e, u, v, z, _⟩ => ?_) H2 (e1.trans e2)
      rw [hW] at z
      rw [z] at hb
      simp at hb
    · rw [Bool.not_eq_false'] at hb
      have h3 : ws.length = 3 := by
        have := V.int.inj (of_decide_eq_true hb)
        omega
      obtain ⟨n, u, v, rfl⟩ : ∃ n u v, ws = [n, u, v] := by
        match ws, h3 with
        | [n, u, v], _ => exact ⟨n, u, v, rfl⟩
      have hs := sq_of (K := K) (e2 _ _ hl1)
      refine rd_two (n := n) (u := u) (v := v) (ev_op (ev_var rfl) ev_c (rv_ixL hs rfl)) (ev_is ev_c (congrArg V.str (by decide +kernel))) (ev_op (ev_var rfl) ev_c (rv_ixL hs rfl)) (ev_is ev_c (congrArg V.str (by decide +kernel))) (ev_op (ev_var rfl) ev_c (rv_ixL hs rfl)) (hpl u (by simp)) (hpl v (by simp)) (fun r1 r2 p q H3 e3 g1 g2 => ?_) (fun hn H3 e3 => ?_)
      · exact k1 (n, _, _) ⟨u, v, hW, r1, r2, rfl, rfl⟩ _ _ ((e1.trans e2).trans e3) ⟨p, q, rfl, st_of g2, st_of g1⟩
      · refine k2 (fun ⟨e, x, y, z, r1, r2, _⟩ => ?_) H3 ((e1.trans e2).trans e3)
        rw [hW] at z
        simp only [List.cons.injEq, and_true] at z
        obtain ⟨_, rfl, rfl⟩ := z
        exact hn ⟨r1, r2⟩
end

--CUT samep
theorem perm_names {p : Pg} {ys : List Str} (h : ys.Perm (p.map fun e => ofL e.1)) : (ys.map fun y => y.cps.toList).Perm (p.map (·.1)) ∧ ys = (ys.map fun y => y.cps.toList).map ofL := by
  refine ⟨?_, ?_⟩
  · have := h.map fun y : Str => y.cps.toList
    rw [List.map_map] at this
    exact this
  · rw [List.map_map]
    exact (List.map_id' ys).symm
section
variable {K : PySem.W.Frag} {σ : L2.St} {H H' : Hp} {ta tb te td tk tv : TE} {x y z v : V} {D : Ends} {tz : TS} {P P1 P2 : VP}
theorem ev_op2X {r : R2} [Mono P1] (h1 : EvX ta σ H P1) (h2 : EvX tb σ H P2) (hr : ∀ a b H1, Ex H H1 → P1 a H1 → P2 b H1 → RV r a b H1 z) : Ev (tOp r ta tb) σ H z := fun H1 e Q q =>
  h1 H1 e _ fun a H2 e2 ha => h2 H2 (e.trans e2) _ fun b H3 e3 hb => hr a b H3 ((e.trans e2).trans e3) (Mono.mono e3 ha) hb H3 (Ex.refl H3) Q fun H4 e4 => q H4 ((e2.trans e3).trans e4)
theorem ev_eqT {a b c d : Int} (h1 : EvX ta σ H (Tp K [.int a, .int b])) (h2 : EvX tb σ H (Tp K [.int c, .int d])) : Ev (tOp (rEqD K) ta tb) σ H (.bl (decide (a = c) && decide (b = d))) := ev_op2X h1 h2 (by
  rintro _ _ H1 e ⟨p, rfl, hp⟩ ⟨q, rfl, hq⟩
  rw [← eqv_two]
  exact rv_eqD (fun H2 e2 => dp_two (ex_t e2 hp)) (fun H2 e2 => dp_two (ex_t e2 hq)) (shaped_two _ _) (shaped_two _ _))
theorem PgAt.nil {d : Addr} (h : H d = some (.dK [])) : PgAt K H d [] := ⟨[], h, .nil, List.nodup_nil, (fun e he => by cases he), by decide⟩
end
theorem good_nm {cs : List Nat} (h : GoodN cs) : NmOk cs := ⟨h.1, h.2.1, fun x hx => by
  have := h.2.2 x hx
  unfold lowC' at this
  omega⟩

/-! ### two pages alike, names rising -/
section
variable {K : PySem.W.Frag} {σ : L2.St} {H H' : Hp} {ta tb te td tk tv : TE} {v : V} {P : VP}
abbrev rListK : List V → Hp → VK → Prop := fun xs H Q => ∃ (a : Addr) (kvs : List (Key × V)), xs = [.ref a] ∧ Rd H a (.dK kvs) ∧ ∀ p, H p = none → Q (.ref p) (upd H p (.lst (kvs.map fun kv => kV kv.1)))
def nmV (ns : List Nm) : List V := ns.map fun n => V.str (ofL n)
theorem x_listPg {a : Addr} {p : Pg} (h : Ev ta σ H (.ref a)) (hp : PgRd K H a p) : EvX (tCB rListK (tCons ta tNil)) σ H (Ls K (nmV (p.map (·.1)))) := fun H1 e Q q =>
  h H1 e _ fun H2 e2 => by
    obtain ⟨kvs, h1, h2, _⟩ := hp.mono (e.trans e2)
    refine ⟨a, kvs, rfl, h1, fun r hr => q _ _ (e2.trans (Ex.new hr)) ⟨r, rfl, ?_⟩⟩
    have : kvs.map (fun kv => kV kv.1) = nmV (p.map (·.1)) := by
      have := congrArg (List.map kV) h2.keys
      rw [List.map_map, List.map_map, List.map_map] at this
      unfold nmV
      rw [List.map_map]
      exact this
    rw [this]
    exact sq_of upd_same
theorem x_sortPg {a : Addr} {p : Pg} (h : Ev ta σ H (.ref a)) (hp : PgRd K H a p) : EvX (tCB rSortD (tCons ta tNil)) σ H (fun v H2 => ∃ ns, Ls K (nmV ns) v H2 ∧ ns.Perm (p.map (·.1)) ∧ RisingN ns) := fun H1 e Q q =>
  h H1 e _ fun H2 e2 => by
    obtain ⟨kvs, h1, h2, _, _, h5⟩ := hp.mono (e.trans e2)
    refine ⟨a, kvs, p.map fun e => ofL e.1, rfl, h1, h2.keys, by rw [List.length_map]; omega, fun ys r hperm hys hr => ?_⟩
    obtain ⟨hns, eys⟩ := perm_names hperm
    have hris : RisingN (ys.map fun y => y.cps.toList) := List.pairwise_map.mpr hys
    generalize (ys.map fun y => y.cps.toList) = ns at hns eys hris
    subst eys
    refine q _ _ (e2.trans (Ex.new hr)) ⟨ns, ⟨r, rfl, ?_⟩, hns, hris⟩
    rw [List.map_map]
    exact sq_of upd_same
theorem rising_eq {a b : List Nm} (h : a.Perm b) (ha : RisingN a) (hb : RisingN b) : a = b :=
  List.Perm.eq_of_pairwise (le := fun a b => ¬ b < a) (fun x y _ _ h1 h2 => List.le_antisymm h1 h2) ha hb h
theorem dpAll_names {ns : List Nm} : DpAll K H (nmV ns) (ns.map fun n => PyData.str (ofL n)) := by
  unfold nmV
  induction ns with
  | nil => exact .nil
  | cons n ns ih => exact .cons (.str _) ih
theorem can_names : ∀ {ns : List Nm}, (∀ n ∈ ns, NmOk n) → PyData.canLayAll0 (ns.map fun n => PyData.str (ofL n)) = true
  | [], _ => by simp [PyData.canLayAll0]
  | n :: ns, h => by
    have h1 := (h n List.mem_cons_self).2.2
    rw [List.map_cons, PyData.canLayAll0, can_names fun m hm => h m (List.mem_cons_of_mem _ hm), Bool.and_true, PyData.canLay0]
    show (ofL n).cps.all _ = true
    show n.toArray.all _ = true
    rw [List.all_toArray, List.all_eq_true]
    intro x hx
    exact decide_eq_true (h1 x hx)
theorem dep_names : ∀ {ns : List Nm}, PyData.depthAll (ns.map fun n => PyData.str (ofL n)) = 0
  | [] => rfl
  | n :: ns => by rw [List.map_cons, PyData.depthAll, dep_names, PyData.depth]; rfl
theorem ev_neNames {ns : List Nm} {P2 : VP} (hn : ∀ n ∈ ns, NmOk n) (h1 : EvX ta σ H (Ls K (nmV ns))) (h2 : EvX tb σ H P2) (hP : ∀ v H1, P2 v H1 → Ls K (nmV ns) v H1) : Ev (tOp (rNeD K) ta tb) σ H (.bl false) := ev_op2X h1 h2 (by
  rintro _ b H1 e ⟨p, rfl, hp⟩ h
  obtain ⟨q, rfl, hq⟩ := hP _ _ h
  have sh : SeqAt.shaped (.list (ns.map fun n => PyData.str (ofL n))) = true := by
    unfold SeqAt.shaped
    rw [PyData.canLay0, can_names hn, PyData.depth, dep_names]
    rfl
  have := rv_neD (K := K) (H := H1) (fun H2 e2 => .lst (ex_l e2 hp) dpAll_names) (fun H2 e2 => .lst (ex_l e2 hq) dpAll_names) sh sh
  rw [SeqAt.eqv_refl _ (SeqAt.canLay_of_shaped sh)] at this
  exact this)
end
section
variable {P : Program} {w : World} {K : PySem.W.Frag} {mg : Str → Option Value} {base : Heap}
abbrev spSame (K : PySem.W.Frag) : Sp := SpF (fun x : (Addr × Addr) × Pg × Pg => [.ref x.1.1, .ref x.1.2]) (fun x H => PgAt K H x.1.1 x.2.1 ∧ PgRd K H x.1.2 x.2.2 ∧ x.2.1.Perm x.2.2 ∧ RisingN (x.2.1.map (·.1))) (fun _ _ => Is (.bl true))
theorem ok_law_same (T : Txt K mg) : FnOk P w K mg base CX0 3 T.a_law_same T.d_law_same ["_law_found", "_law_due_here"] (spSame K) := by
  refine T.h_law_same.F.ok sc_law_same (fun vs H Q E h => ?_) (fun cdv A outer s H vs Q E hr h => ?_)
  · obtain ⟨c, rfl, _⟩ := h
    rfl
  · obtain ⟨⟨⟨a, b⟩, f, d⟩, rfl, ⟨hf, hd, hperm, hris⟩, k⟩ := h
    simp only at hf hd hperm hris k
    refine ⟨_, (pss_cons (ps_if (PW.pt (pw_or (pt_not (pt_val (pe_callB call_isi (by rfl) T.n_isinstance (by decide +kernel) (pa_cons (pv 0) (pa_cons (pe_bltn (v := .ty "dict") (u := .type "dict") (by rfl) T.n_dict (by decide +kernel) rfl) pa_nil))))) (pw_or1 (pt_cmpR (op_neD hr.units) (pe_callTy (call_listD rfl) (by rfl) T.n_list (by decide +kernel) (pa_cons (pv 0) pa_nil)) (pe_callB (gc_sortedD rfl) (by rfl) T.n_sorted (by decide +kernel) (pa_cons (pv 1) pa_nil)) (nomark _))))) (pss_one (ps_ret pe_bl)) pss_nil) (pss_cons (ps_lock (ps_for PassesOwn.never rfl (pi_keys (pv 0)) (pg_name (i := 2) sc_law_same.nd rfl (by first | exact Or.inl rfl | exact Or.inr rfl)) (pss_one (ps_if (PW.pt (pw_or (pt_not (pt_val (pe_callB call_isi (by rfl) T.n_isinstance (by decide +kernel) (pa_cons (pv 2) (pa_cons (pe_bltn (v := .ty "str") (u := .type "str") (by rfl) T.n_str (by decide +kernel) rfl) pa_nil))))) (pw_or1 (pt_not (pt_val (pe_call (ok_law_share T) (hr.mono (by decide)) rfl T.h_law_share.m T.h_law_share.F.kp T.h_law_share.b .nil pass0 (pa_cons (pe_dget (hu_of hr) (pv 0) (pv 2) (fun _ _ => rfl)) (pa_cons (pe_dget (hu_of hr) (pv 1) (pv 2) (fun _ _ => rfl)) pa_nil)))))))) (pss_one (ps_ret pe_bl)) pss_nil)))) (pss_one (ps_ret pe_bl)))), ?_⟩
    obtain ⟨kvs, hk1, hk2, hk3, hk4, hk5⟩ := id hf
    have hnames : ∀ n ∈ f.map (·.1), NmOk n := fun n hn => by
      obtain ⟨e, he, rfl⟩ := List.mem_map.mp hn
      exact hk4 e he
    refine q_when (b := !true || false) (et_or (et_not (et_B (ev_cb (ea_cons (ev_var rfl) (ea_cons ev_c ea_nil)) (rc_isi (a := "dict") (fun H1 e1 => .base (.dK (e1 _ _ hk1))) (by decide +kernel))))) fun _ => et_test (ev_neNames (K := K) (ns := f.map (·.1)) hnames (x_listPg (K := K) (ev_var rfl) hf.rd) (x_sortPg (K := K) (ev_var rfl) hd) ?_)) (fun hb H1 e1 => by cases hb) (fun _ H1 e1 => ?_)
    · rintro v H1 ⟨ns, h1, h2, h3⟩
      have : ns = f.map (·.1) := rising_eq (h2.trans (hperm.map (·.1)).symm) h3 hris
      rw [← this]
      exact h1
    refine q_lock (e1 _ _ hk1) fun od => ?_
    have hfF : PgRd K (upd H1 a (.frz od (.dK kvs))) a f := (hf.rd.mono e1).lock (e1 _ _ hk1)
    have hdF : PgRd K (upd H1 a (.frz od (.dK kvs))) b d := (hd.mono e1).lock (e1 _ _ hk1)
    have haF : upd H1 a (.frz od (.dK kvs)) a = some (.frz od (.dK kvs)) := upd_same
    have hun : ∀ H', Ex (upd H1 a (.frz od (.dK kvs))) H' → Ex H (upd H' a (.dK kvs)) := fun H' e => e1.trans (unlock (e1 _ _ hk1) e)
    generalize upd H1 a (.frz od (.dK kvs)) = HL at hfF hdF haF hun
    refine s_forKeys (kvs := kvs) (ev_var rfl) haF (fun i σ' H' => ∃ s2, σ' = [some (.ref a), some (.ref b), s2] ∧ Ex HL H') (fun H2 e2 => ⟨none, rfl, e2⟩) ?_ ?_ ?_
    · rintro m σ' H' ⟨s2, rfl, eH⟩
      exact eH _ _ haF
    · rintro i key u σ' H2 hkv ⟨s2, rfl, eH⟩
      obtain ⟨⟨n, s⟩, hem, hkey, _⟩ := hk2.at hkv
      have hmem := List.mem_of_getElem? hem
      have hget := getP_mem hk3 _ hmem
      have hget2 : getP d n = some s := getP_mem (((hperm.map (·.1)).nodup_iff).mp hk3) _ (hperm.mem_iff.mp hmem)
      simp only at hkey hget
      subst hkey
      refine s_when (b := !true || !(decide ((s.1, s.2) = (s.1, s.2)))) (et_or (et_not (et_B (ev_cb (ea_cons (ev_var rfl) (ea_cons ev_c ea_nil)) (rc_isi (x := .str (ofL n)) (a := "str") (b := true) (fun _ _ => .base (.str _)) (by decide +kernel))))) fun _ => et_not (et_B (x_share (K := K) (x_dget (K := K) (ev_var rfl) (ev_var rfl) (hfF.mono eH) hget) (x_dget (K := K) (ev_var rfl) (ev_var rfl) (hdF.mono eH) hget2)))) (fun hb H3 e3 => by simp at hb) (fun _ H3 e3 => ⟨_, rfl, eH.trans e3⟩)
    · rintro σ' H' ⟨s2, rfl, eH⟩
      refine ⟨eH _ _ haF, ?_⟩
      dsimp only
      refine s_ret ev_c fun H2 e2 => ?_
      exact k _ _ ((hun _ eH).trans e2) rfl
theorem x_sameX {σ : L2.St} {H : Hp} {ta tb : TE} {E : XK} {P1 : VP} {dd : Pg} {b : Addr} (h1 : EvX ta σ H P1) (h2 : Ev tb σ H (.ref b)) (hd : PgRd K H b dd) (g : ∀ v H1, Ex H H1 → P1 v H1 → ∃ d f, v = .ref d ∧ PgAt K H1 d f ∧ f.Perm dd ∧ RisingN (f.map (·.1))) [Mono P1] :
    Ev (tCall (spSame K) [] E (tCons ta (tCons tb tNil))) σ H (.bl true) := ev_x (x_call2 h1 (x_ev h2) (by
  rintro _ _ H1 e p1 rfl
  obtain ⟨d, f, rfl, h3, h4, h5⟩ := g _ _ e p1
  exact sx_of ((d, b), f, dd) (fun H2 e2 => ⟨h3.mono e2, hd.mono (e.trans e2), h4, h5⟩) fun _ _ _ _ _ h => h))
end

--CUT notef
/-! ### a page written -/
def okE (e : Nm × Int × Int) : Bool := nameOk (ofL e.1) && (shOk0 [.int e.2.1, .int e.2.2] && !decide (([.int e.2.1, .int e.2.2] : List V) = [.int 0, .int 0]))
def PageB (q : Pg) : Bool := decide (q.length ≤ 200) && q.all okE
theorem nameOk_iff {n : Nm} : nameOk (ofL n) = true ↔ GoodN n := by
  unfold nameOk GoodN
  rw [ofL_len, Bool.and_eq_true, Bool.and_eq_true, decide_eq_true_iff, decide_eq_true_iff, ofL_tl, List.all_eq_true]
  constructor
  · rintro ⟨⟨h1, h2⟩, h3⟩
    refine ⟨by omega, by omega, fun x hx => ?_⟩
    have := h3 x hx
    unfold lowC at this
    unfold lowC'
    rw [Bool.and_eq_true, decide_eq_true_iff, decide_eq_true_iff] at this
    exact this
  · rintro ⟨h1, h2, h3⟩
    refine ⟨⟨by omega, by omega⟩, fun x hx => ?_⟩
    have := h3 x hx
    unfold lowC' at this
    unfold lowC
    rw [Bool.and_eq_true, decide_eq_true_iff, decide_eq_true_iff]
    exact this
theorem okE_iff {e : Nm × Int × Int} : okE e = true ↔ GoodX e := by
  unfold okE GoodX
  rw [Bool.and_eq_true, nameOk_iff]
  refine and_congr_right fun _ => ?_
  have n1 : ∀ a : Int, numOk (.int a) = (decide (0 ≤ a) && decide (a < T60)) := fun a => rfl
  have n2 : shOk0 [.int e.2.1, .int e.2.2] = (numOk (.int e.2.1) && numOk (.int e.2.2)) := by
    unfold shOk0
    simp
  rw [n2, n1, n1]
  simp only [Bool.and_eq_true, decide_eq_true_eq, Bool.not_eq_true', decide_eq_false_iff_not, List.cons.injEq, V.int.injEq, and_true]
  constructor
  · rintro ⟨⟨⟨h1, h2⟩, h3, h4⟩, h5⟩
    exact ⟨h1, h2, h3, h4, h5⟩
  · rintro ⟨h1, h2, h3, h4, h5⟩
    exact ⟨⟨⟨h1, h2⟩, h3, h4⟩, h5⟩
section
variable {K : PySem.W.Frag} {σ : L2.St} {H : Hp} {tl te to : TE} {d : Addr} {kvs : List (Key × V)} {q : Pg}
theorem pv_es (hp : PgV K H kvs q) (hn : ∀ e ∈ q, e.1.length ≤ 1000) : ∃ es : List (Key × V × Bool), kvs = es.map (fun e => (e.1, e.2.1)) ∧ (∀ e ∈ es, KeyLen e.1 ∧ ShAt K H e.2.1 e.2.2) ∧ es.map (fun e => keyOk e.1 && e.2.2) = q.map okE := by
  unfold PgV at hp
  induction hp with
  | nil => exact ⟨[], rfl, (fun e he => by cases he), rfl⟩
  | @cons kv e kvs q h t ih =>
    obtain ⟨es, h1, h2, h3⟩ := ih fun x hx => hn x (List.mem_cons_of_mem _ hx)
    obtain ⟨g1, r, g2, g3⟩ := h
    refine ⟨(kv.1, kv.2, shOk0 [.int e.2.1, .int e.2.2] && !decide (([.int e.2.1, .int e.2.2] : List V) = [.int 0, .int 0])) :: es, ?_, fun x hx => ?_, ?_⟩
    · rw [h1]
      rfl
    · rcases List.mem_cons.mp hx with rfl | hx
      · refine ⟨?_, .inl ⟨r, _, g2, g3, rfl, (by show 2 ≤ 1000; decide), rfl⟩⟩
        show KeyLen kv.1
        rw [g1]
        show e.1.length ≤ 30000
        have := hn e List.mem_cons_self
        omega
      · exact h2 x hx
    · rw [List.map_cons, List.map_cons, h3]
      congr 1
      show (keyOk kv.1 && _) = okE e
      rw [g1]
      rfl
theorem sv_page (hd : H d = some (.dK kvs)) (hp : PgV K H kvs q) (hn : ∀ e ∈ q, e.1.length ≤ 1000) (hl : q.length ≤ 3000) : SpV (spIsPage K) [.ref d] H (.bl (PageB q)) := by
  obtain ⟨es, rfl, h2, h3⟩ := pv_es hp hn
  have hlen : es.length = q.length := by
    have := congrArg List.length h3
    rw [List.length_map, List.length_map] at this
    exact this
  have e0 : pageB es = PageB q := by
    unfold pageB PageB
    rw [hlen]
    congr 1
    have h4 := congrArg (fun l => l.all id) h3
    simp only [List.all_map] at h4
    exact h4
  rw [← e0]
  exact sv_isPage hd (by omega) h2
theorem x_lcN {P : List Nm → Prop} {j : Nat} {vs : List Nat} (f : Nm → V) (h : EvX tl σ H (fun v H2 => ∃ ns, Ls K (nmV ns) v H2 ∧ P ns)) (hz : ∀ ns, P ns → ns.length ≤ 40000) (hw : ∀ x, wipe ((wipe σ vs).set j (some x)) vs = wipe σ vs)
    (he : ∀ ns n H1, P ns → n ∈ ns → Ex H H1 → Ev te ((wipe σ vs).set j (some (.str (ofL n)))) H1 (f n)) : EvX (tLc (iList K tl) (gName j) tYes te vs) σ H (fun v H2 => ∃ ns, P ns ∧ Ls K (ns.map f) v H2) := fun H0 e Q q =>
  h H0 e _ fun v H1 e1 ⟨ns, ⟨a, ea, hx⟩, hP⟩ => ⟨a, ea, ⟨nmV ns, hx⟩, fun Dl hD => by
    have hlen : (nmV ns).length = ns.length := List.length_map ..
    refine lc_list (xs := nmV ns) (Cw H1 (fun _ => true) (fun i => f (ns[i]?.getD [])) Dl) ⟨hD, Ex.new hD, upd_same⟩ (fun i H' _ p => ex_l p.2.1 hx) (fun i x H' hi p => ?_) (fun H' p => ?_)
    · unfold nmV at hi
      rw [List.getElem?_map] at hi
      cases hn : ns[i]? with
      | none =>
        rw [hn] at hi
        cases hi
      | some n =>
        rw [hn] at hi
        obtain rfl := Option.some.inj hi
        have hlt : i < ns.length := (List.getElem?_eq_some_iff.mp hn).1
        have := hz ns hP
        refine ⟨hw _, cw_turn p (by omega) et_yes (fun _ => ?_)⟩
        rw [hn]
        exact he ns n H1 hP (List.mem_of_getElem? hn) (e.trans e1)
    · refine q _ H' (e1.trans p.2.1) ⟨ns, hP, Dl, rfl, sq_of ?_⟩
      rw [p.2.2, given_all, hlen, map_range_get]⟩
theorem sum_le {k : Nat} : ∀ {l : List Nat}, (∀ x ∈ l, x ≤ k) → l.sum ≤ l.length * k
  | [], _ => by simp
  | a :: l, h => by
    have h1 := h a List.mem_cons_self
    have h2 := sum_le (l := l) fun x hx => h x (List.mem_cons_of_mem _ hx)
    rw [List.sum_cons, List.length_cons, Nat.succ_mul]
    omega
theorem x_joinN {P : List Nm → Prop} {S : List Nat} (f : Nm → List Nat) (h1 : Ev to σ H (.str (ofL S))) (h2 : EvX te σ H (fun v H2 => ∃ ns, P ns ∧ Ls K (ns.map fun n => V.str (ofL (f n))) v H2)) (hS : S.length ≤ 10) (hf : ∀ ns, P ns → ns.length ≤ 2000 ∧ ∀ n ∈ ns, (f n).length ≤ 1000) :
    EvX (tM1 (rJoin K) to te) σ H (fun v _ => ∃ ns, P ns ∧ v = .str (ofL (TL.joinL S (ns.map f)))) := fun H1 e Q q =>
  h1 H1 e _ fun H2 e2 => ⟨⟨_, rfl⟩, h2 H2 (e.trans e2) _ fun v H3 e3 ⟨ns, hP, p, hv, hp⟩ => ⟨_, p, (ns.map f).map ofL, rfl, by rw [hv], .inl (by rw [List.map_map, List.map_map]; exact hp), by
    obtain ⟨g1, g2⟩ := hf ns hP
    have hb : (((ns.map f).map ofL).map (·.length)).sum ≤ ns.length * 1000 := by
      have := sum_le (k := 1000) (l := ((ns.map f).map ofL).map (·.length)) fun x hx => by
        obtain ⟨y, hy, rfl⟩ := List.mem_map.mp hx
        obtain ⟨z, hz, rfl⟩ := List.mem_map.mp hy
        obtain ⟨n, hn, rfl⟩ := List.mem_map.mp hz
        rw [ofL_len]
        exact g2 n hn
      rw [List.length_map, List.length_map, List.length_map] at this
      exact this
    rw [List.length_map, List.length_map, ofL_len]
    have : ns.length * S.length ≤ 2000 * 10 := Nat.mul_le_mul g1 hS
    omega, q _ _ (e2.trans e3) ⟨ns, hP, congrArg V.str (SX.join_S S (ns.map f))⟩⟩⟩
end
section
variable {P : Program} {w : World} {K : PySem.W.Frag} {mg : Str → Option Value} {base : Heap}
def PermR (q : Pg) (ns : List Nm) : Prop := ns.Perm (q.map (·.1)) ∧ RisingN ns
def wrS (q : Pg) : List Nat := wrN q (srtN (q.map (·.1)))
abbrev spWritten (K : PySem.W.Frag) : Sp := SpF (fun x : Addr × Pg => [.ref x.1]) (fun x H => PgAt K H x.1 x.2 ∧ ∀ e ∈ x.2, GoodX e) (fun x _ => Is (.str (ofL (wrS x.2))))
theorem entP_len {e : Nm × Int × Int} (h : GoodX e) : (entP e).length ≤ 140 := by
  obtain ⟨hn, h1, h2, h3, h4, _⟩ := id h
  have l1 := TL.numL_len (by decide) (t60_nat h1 h2)
  have l2 := TL.numL_len (by decide) (t60_nat h3 h4)
  have l0 := hn.2.1
  rw [ent_eq]
  simp only [List.length_append, List.length_cons, List.length_nil]
  omega
theorem ok_written (T : Txt K mg) : FnOk P w K mg base CX0 2 T.a_written T.d_written ["page"] (spWritten K) := by
  refine T.h_written.F.ok sc_written (fun vs H Q E h => ?_) (fun cdv A outer s H vs Q E hr h => ?_)
  · obtain ⟨x, rfl, _⟩ := h
    rfl
  · obtain ⟨⟨d, q⟩, rfl, ⟨hd, hg⟩, k⟩ := h
    simp only at hd hg k
    refine ⟨_, (pss_cons (ps_if (pt_not (pt_truth (pv 0) (by intro _; rfl))) (pss_one (ps_ret (pe_glob rfl T.g_NOBODY.1 T.g_NOBODY.2))) pss_nil) (pss_one (ps_ret (pe_join pe_str (pe_lc (own := [("name", 1)]) (by rfl) sc_written.nd (pi_list (pe_callB (gc_sortedD rfl) (by rfl) T.n_sorted (by decide +kernel) (pa_cons (pv 0) pa_nil))) (blkOk_by (own := [("name", 1)]) (N := ["page", "name"]) (sc := defScope s_written) (by decide +kernel)) (fun _ _ _ _ _ => (pg_name (i := 1) sc_written.nd rfl (by first | exact Or.inl rfl | exact Or.inr rfl))) (fun _ _ _ _ _ => pts_nil) (fun _ _ _ _ _ => (pe_call (ok_entry T) (hr.mono (by decide)) rfl T.h_entry.m T.h_entry.F.kp T.h_entry.b .nil pass0 (pa_cons (pv 1) (pa_cons (pe_dget (hu_of hr) (pv 0) (pv 1) (fun _ _ => rfl)) pa_nil))))))))), ?_⟩
    obtain ⟨kvs, hk1, hk2, hk3, hk4, hk5⟩ := id hd
    refine q_when (b := !!kvs.isEmpty) (et_not (et_tru (K := K) (x := .ref d) (ev_var rfl) fun H1 e1 => .inr (.inr ⟨kvs, e1 _ _ hk1, rfl⟩))) (fun hb H1 e1 => ?_) (fun hb H1 e1 => ?_)
    · rw [Bool.not_not, List.isEmpty_iff] at hb
      subst hb
      cases hk2
      exact s_ret (v := .str (ofL nobL)) (ev_is ev_c (congrArg V.str (by decide +kernel))) fun H2 e2 => k _ _ (e1.trans e2) rfl
    · have hq : q ≠ [] := fun z => by
        subst z
        cases hk2
        cases hb
      have hS := x_sortPg (K := K) (σ := L2.start ["page", "name"] [.ref d]) (ta := tVar 0) (ev_var rfl) (hd.mono e1).rd
      have hpl : ∀ ns : List Nm, (ns.Perm (q.map (·.1)) ∧ RisingN ns) → ns.length ≤ 1000 := fun ns hns => by
        rw [hns.1.length_eq, List.length_map]
        exact hk5
      have hfn : ∀ ns : List Nm, (ns.Perm (q.map (·.1)) ∧ RisingN ns) → ∀ n ∈ ns, ∃ s, getP q n = some s ∧ GoodX (n, s) := fun ns hns n hn => by
        obtain ⟨f, hf, rfl⟩ := List.mem_map.mp (hns.1.mem_iff.mp hn)
        exact ⟨f.2, getP_mem hk3 f hf, hg f hf⟩
      refine sx_ret (x_joinN (K := K) (P := PermR q) (S := [44, 32]) (fun n => entP (n, (getP q n).getD (0, 0))) (ev_is ev_c (congrArg V.str (by decide +kernel))) ?lc (by decide) (fun ns hns => ⟨Nat.le_trans (hpl ns hns) (by decide), fun n hn => ?ln⟩)) ?fin
      case lc =>
        refine x_lcN (K := K) (P := PermR q) (fun n => V.str (ofL (entP (n, (getP q n).getD (0, 0))))) hS (fun ns h => Nat.le_trans (hpl ns h) (by decide)) (fun _ => rfl) (fun ns n H2 hP hn e2 => ?_)
        obtain ⟨s, h1, h2⟩ := hfn ns hP n hn
        rw [h1]
        refine ev_x (x_call2 (x_ev (ev_var rfl)) (x_dget (K := K) (ev_var rfl) (ev_var rfl) ((hd.mono e1).mono e2).rd h1) ?_)
        rintro _ _ H3 e3 rfl ⟨r, rfl, hr2⟩
        exact sx_entry (e := (n, s)) hr2 h2
      case ln =>
        obtain ⟨s, h1, h2⟩ := hfn ns hns n hn
        rw [h1]
        have := entP_len h2
        show (entP (n, s)).length ≤ 1000
        omega
      case fin =>
        rintro v H2 e2 ⟨ns, ⟨h1, h2⟩, rfl⟩
        refine k _ _ (e1.trans e2) ?_
        have : ns = srtN (q.map (·.1)) := rising_eq (h1.trans (srt_perm _).symm) h2 (srt_ris _)
        show _ = V.str (ofL (wrS q))
        unfold wrS wrN
        rw [if_neg hq, this]
end

--CUT noteg
/-! ### a text read -/
section
variable {P : Program} {w : World} {K : PySem.W.Frag} {mg : Str → Option Value} {base : Heap}
def spRead (K : PySem.W.Frag) (N : Addr) : Sp := fun vs H Q E => ∃ L : List Nat, vs = [.str (ofL L)] ∧ L.length ≤ 1000 ∧ (∀ p, Due L p → Ret (fun v H2 => ∃ d, v = .ref d ∧ PgAt K H2 d p) H Q) ∧ ((∀ p, ¬ Due L p) → ∀ H', Ex H H' → E (.ref N) none H')
theorem ok_read (T : Txt K mg) : FnOk P w K mg base (L2.CX P w) 5 T.a_read T.d_read ["text"] (spRead K T.c_NoNote) := by
  refine T.h_read.F.okX sc_read (fun vs H Q E h => ?_) (fun cdv A outer s H vs Q E hr h => ?_)
  · obtain ⟨c, rfl, _⟩ := h
    rfl
  · obtain ⟨L, rfl, hl, k1, k2⟩ := h
    refine ⟨_, (pss_cons (ps_if (pt_cmpR op_eq (pv 0) (pe_glob rfl T.g_NOBODY.1 T.g_NOBODY.2) (nomark _)) (pss_one (ps_ret pe_dnewK)) pss_nil) (pss_cons (ps_set (i := 1) sc_read.nd rfl (by first | exact Or.inl rfl | exact Or.inr rfl) pe_dnewK) (pss_cons (ps_for (passes_of rfl) rfl (pi_list (pe_bm PySem.F.plainAttrs_str PySem.F.slot_str_split PySem.F.type_str_split mt_split (pv 0) (pa_cons pe_str pa_nil))) (pg_name (i := 2) sc_read.nd rfl (by first | exact Or.inl rfl | exact Or.inr rfl)) (pss_cons (ps_asg (pe_call (ok_read_entry T) (hr.mono (by decide)) rfl T.h_read_entry.m T.h_read_entry.F.kp T.h_read_entry.b .nil (passes_call (E := E) (takes_of rfl rfl rfl rfl) (fun _ _ _ _ h => h)) (pa_cons (pv 2) pa_nil)) (pg_tup rfl (pgs_cons (pg_name (i := 3) sc_read.nd rfl (by first | exact Or.inl rfl | exact Or.inr rfl)) (pgs_cons (pg_name (i := 4) sc_read.nd rfl (by first | exact Or.inl rfl | exact Or.inr rfl)) pgs_nil)))) (pss_one (ps_dput (hu_of hr) (pv 1) (pv 3) (pv 4) rfl)))) (pss_cons (ps_if (PW.pt (pw_or (pt_not (pt_val (pe_call (ok_is_page T) (hr.mono (by decide)) rfl T.h_is_page.m T.h_is_page.F.kp T.h_is_page.b .nil pass0 (pa_cons (pv 1) pa_nil)))) (pw_or1 (pt_cmpR op_ne (pe_call (ok_written T) (hr.mono (by decide)) rfl T.h_written.m T.h_written.F.kp T.h_written.b .nil pass0 (pa_cons (pv 1) pa_nil)) (pv 0) (nomark _))))) (pss_one (ps_raise rfl (takes_of rfl rfl rfl rfl) (pmk_own PySem.F.excBase_ValueError T.x_NoNote.q T.x_NoNote.g T.x_NoNote.kp (raises_own T.x_NoNote.b T.x_NoNote.t) rfl))) pss_nil) (pss_one (ps_ret (pv 1))))))), ?_⟩
    have enob : (Str.ofString "nobody" : Str) = ofL nobL := by decide +kernel
    refine q_when (b := decide (V.str (ofL L) = V.str (ofL nobL))) (et_test (ev_op (ev_var rfl) (ev_is ev_c (congrArg V.str enob)) (rv_eq rfl))) (fun hb H1 e1 => ?_) (fun hb H1 e1 => ?_)
    · have hL : L = nobL := ofL_inj (V.str.inj (of_decide_eq_true hb))
      refine sx_ret x_dnew ?_
      rintro v H2 e2 ⟨d, rfl, hd0, hd⟩
      exact k1 [] (.inl ⟨hL, rfl⟩) _ _ (e1.trans e2) ⟨d, rfl, PgAt.nil hd⟩
    have hL : L ≠ nobL := fun z => of_decide_eq_false hb (by rw [z])
    refine qx_asg x_dnew ?_
    rintro v H2 e2 ⟨d, rfl, hd0, hd⟩
    have hd0' : H d = none := fresh_back e1 hd0
    have hno : ∀ {H' : Hp}, Ex H H' → (∀ p, ¬ WrP L p) → E (.ref T.c_NoNote) none H' := fun e h => k2 (fun p hp => by
      rcases hp with ⟨z, _⟩ | ⟨_, z⟩
      · exact hL z
      · exact h p z) _ e
    have hcnt : (TL.spl [44, 32] 0 [] L).length ≤ 1001 := Nat.le_trans (parts_cnt (s := 44) (S := [32])) (by omega)
    refine q_forNLn (K := K) (el_split (K := K) (b := [44, 32]) (by simp) (by decide) (by decide +kernel) (ev_var rfl) (by omega)) (fun l i σ' H' => ∃ s2 s3 s4 es kvs, σ' = [some (.str (ofL L)), some (.ref d), s2, s3, s4] ∧ Ex H H' ∧ H' d = some (.dK kvs) ∧ PgV K H' kvs (foldP es) ∧ H' l = some (.lst ((TL.spl [44, 32] 0 [] L).map fun p => V.str (ofL p))) ∧ Paired RdE ((TL.spl [44, 32] 0 [] L).take i) es) ?_ ?_ ?_ ?_
    · intro l H3 hl0 e3 hl3
      exact ⟨none, none, none, [], [], rfl, (e1.trans e2).trans e3, e3 _ _ hd, .nil, hl3, by rw [List.take_zero]; exact .nil⟩
    · rintro l i σ' H' hi ⟨s2, s3, s4, es, kvs, rfl, e3, h1, h2, h3, h4⟩
      exact sq_of h3
    · rintro l i x σ' H3 hx ⟨s2, s3, s4, es, kvs, rfl, e3, h1, h2, h3, h4⟩
      rw [List.getElem?_map] at hx
      cases hc : (TL.spl [44, 32] 0 [] L)[i]? with
      | none =>
        rw [hc] at hx
        cases hx
      | some c =>
        rw [hc] at hx
        obtain rfl := Option.some.inj hx
        have hcl : c.length ≤ 2000 := Nat.le_trans (part_len (by simp) (List.mem_of_getElem? hc)) (by omega)
        by_cases hcd : ∃ e, RdE c e
        · refine ⟨_, rfl, c, rfl, hcl, fun e he v H4 e4 hv => ?_, fun hn => absurd hcd hn⟩
          obtain ⟨p, q, rfl, hp, hq⟩ := hv
          refine ⟨p, _, rfl, hp, rfl, _, _, rfl, _, _, rfl, rfl, ?_⟩
          have hlen : kvs.length ≤ 1001 := by
            have a1 := h2.len
            have a2 := fold_len es
            have a3 : es.length = ((TL.spl [44, 32] 0 [] L).take i).length := (Paired.length h4).symm
            rw [List.length_take] at a3
            omega
          refine s_dput (k := .inr (ofL e.1)) (ev_var rfl) (ev_var rfl) (ev_var rfl) (e4 _ _ h1) (by omega) fun H5 e5 => ?_
          have hd5 := e5 _ _ (e4 _ _ h1)
          have hne : l ≠ d := fun z => by
            rw [z, h1] at h3
            cases h3
          refine ⟨_, _, _, es ++ [e], _, rfl, Ex.mut ((e3.trans e4).trans e5) hd0', upd_same, ?_, ?_, ?_⟩
          · rw [fold_snoc]
            exact (((h2.mono (e4.trans e5)).put (ex_t e5 hq)).to fun r xs hr => upd_t hd5 hr)
          · rw [upd_ne hne]
            exact e5 _ _ (e4 _ _ h3)
          · rw [take_snoc' hc]
            exact paired_snoc h4 he
        · refine ⟨_, rfl, c, rfl, hcl, fun e he => absurd ⟨e, he⟩ hcd, fun _ H4 e4 => hno (e3.trans e4) fun p hp => ?_⟩
          obtain ⟨e, _, he⟩ := paired_get (wr_rd hp) hc
          exact hcd ⟨e, he⟩
    · rintro l σ' H3 ⟨s2, s3, s4, es, kvs, rfl, e3, h1, h2, h3, h4⟩
      rw [List.length_map, List.take_length] at h4
      have hpq : ∀ p, WrP L p → es = p := fun p hp => paired_uniq h4 (wr_rd hp)
      have hlen : es.length ≤ 1001 := by
        have : es.length = _ := (Paired.length h4).symm
        omega
      have hfl := fold_len es
      have hnm : ∀ e ∈ foldP es, e.1.length ≤ 1000 := fun e he => rd_name (i := (TL.spl [44, 32] 0 [] L).length) (by rw [List.take_length]; exact h4) hl e (fold_mem he)
      have hgood : PageB (foldP es) = true → ∀ e ∈ foldP es, GoodX e := fun h e he => by
        unfold PageB at h
        rw [Bool.and_eq_true] at h
        exact okE_iff.mp (List.all_eq_true.mp h.2 e he)
      have hpg : PageB (foldP es) = true → PgAt K H3 d (foldP es) := fun h => ⟨kvs, h1, h2, fold_nd es, (fun e he => good_nm (hgood h e he).1), by
        unfold PageB at h
        rw [Bool.and_eq_true, decide_eq_true_iff] at h
        have := h.1
        omega⟩
      refine q_when (b := !PageB (foldP es) || !decide (V.str (ofL (wrS (foldP es))) = V.str (ofL L))) (et_or (et_not (et_B (ev_call (ea_cons (ev_var rfl) ea_nil) (sv_page h1 h2 hnm (by omega))))) fun hb => ?_) (fun hb H4 e4 => ?_) (fun hb H4 e4 => ?_)
      · have hB : PageB (foldP es) = true := by
          rw [Bool.not_eq_false'] at hb
          exact hb
        exact et_test (ev_op (ev_call (ea_cons (ev_var rfl) ea_nil) (sv_of (sx_of (d, foldP es) (fun H5 e5 => ⟨(hpg hB).mono e5, hgood hB⟩) fun _ _ _ _ _ h => h))) (ev_var rfl) (rv_ne rfl))
      · refine hno (e3.trans e4) fun p hp => ?_
        have hes := hpq p hp
        subst hes
        rw [wr_fold hp] at hb
        have hB : PageB es = true := by
          unfold PageB
          rw [Bool.and_eq_true, decide_eq_true_iff, List.all_eq_true]
          exact ⟨wr_len hp hl, fun e he => okE_iff.mpr (hp.2.1 e he)⟩
        have hw : wrS es = L := by
          unfold wrS
          rw [rising_eq (srt_perm (es.map (·.1))) (srt_ris _) (wr_ris hp)]
          exact wrN_self hp
        rw [hB, hw, decide_eq_true rfl] at hb
        cases hb
      · rw [Bool.or_eq_false_iff, Bool.not_eq_false', Bool.not_eq_false'] at hb
        have hB := hb.1
        have hw : wrS (foldP es) = L := ofL_inj (V.str.inj (of_decide_eq_true hb.2))
        have hq : foldP es ≠ [] := fun z => by
          rw [z] at hw
          exact hL hw.symm
        have hW := wr_back hq (hgood hB) (fold_nd es) (srt_perm _) (srt_ris _) hw
        have hes := hpq _ hW
        have hfin : foldP es = es := by
          rw [hes]
          exact wr_fold hW
        refine s_ret (ev_var rfl) fun H5 e5 => k1 es (.inr ⟨hL, by rw [hes]; exact hW⟩) _ _ ((e3.trans e4).trans e5) ⟨d, rfl, ?_⟩
        rw [← hfin]
        exact ((hpg hB).mono e4).mono e5
end

--CUT noteh
/-! ### the law's text -/
section
variable {H : Hp} {σ : L2.St} {ta tb ti te : TE} {K : PySem.W.Frag}
theorem rc_intB {b : Bool} : RC (fun xs H Q => (∃ i, xs = [.int i] ∧ Q (.int i) H) ∨ ∃ k, xs = [.bl k] ∧ Q (.int (if k then 1 else 0)) H) [.bl b] H (.int (if b = true then 1 else 0)) := fun H1 _ _ q => .inr ⟨b, rfl, q H1 (Ex.refl H1)⟩
theorem rc_strI {i : Int} (h : i.natAbs.log2 < 1920) : RC (fun xs H Q => ∃ i, xs = [.int i] ∧ i.natAbs.log2 < 1920 ∧ Q (.str (toString i)) H) [.int i] H (.str (toString i)) := fun H1 _ _ q => ⟨i, rfl, h, q H1 (Ex.refl H1)⟩
theorem rv_mulStr {z : Str} {b : Bool} : RV rMulStr (.str z) (.int (if b = true then 1 else 0)) H (.str (if b = true then z else Str.empty)) := fun H1 _ _ q => ⟨z, b, rfl, rfl, q H1 (Ex.refl H1)⟩
theorem el_cat {l : Addr} {xs ys : List V} (ha : Ev ta σ H (.ref l)) (hl : H l = some (.lst xs)) (hb : EvL tb σ H ys) (hz : xs.length + ys.length ≤ 100000) : EvL (tOp rCat ta tb) σ H (xs ++ ys) := fun H1 e Q q =>
  ha H1 e _ fun H2 e2 => hb H2 (e.trans e2) _ fun p H3 _ e3 h3 => ⟨l, p, xs, ys, rfl, rfl, e3 _ _ (e2 _ _ (e _ _ hl)), h3, sz_of hz, fun r hr => q _ _ (fresh_back (e2.trans e3) hr) ((e2.trans e3).trans (Ex.new hr)) upd_same⟩
theorem ev_addL {a b : List Nat} (h1 : Ev ta σ H (.str (ofL a))) (h2 : Ev tb σ H (.str (ofL b))) (hl : a.length + b.length ≤ 100000) : Ev (tOp rAddStr ta tb) σ H (.str (ofL (a ++ b))) := ev_is (ev_op h1 h2 (rv_addStr (by rw [ofL_len, ofL_len]; exact hl))) (congrArg V.str (ofL_app a b))
end
theorem log_le {a : Int} (h0 : 0 ≤ a) (h : a ≤ T60) : a.natAbs.log2 < 1920 ∧ (TL.numL a.toNat).length ≤ 61 := by
  have h1 : a.toNat < 10 ^ 61 := by
    rw [t60_eq] at h
    have : (10 ^ 60 : Nat) < 10 ^ 61 := by decide +kernel
    generalize 10 ^ 60 = m at h this
    generalize 10 ^ 61 = n at this ⊢
    omega
  refine ⟨?_, TL.numL_len (by decide) h1⟩
  have : a.natAbs < 2 ^ 1920 := Nat.lt_trans (by
    generalize 10 ^ 61 = n at h1 ⊢
    omega) (by decide +kernel : 10 ^ 61 < 2 ^ 1920)
  by_cases hz : a.natAbs = 0
  · rw [hz]
    decide +kernel
  · exact (Nat.log2_lt hz).mpr this
section
variable {P : Program} {w : World} {K : PySem.W.Frag} {mg : Str → Option Value} {base : Heap}
abbrev spRow : Sp := SpF (fun x : Int × Int => [.int x.1, .int x.2]) (fun _ _ => True) (fun _ _ v _ => ∃ r : List Nat, v = .str (ofL r) ∧ r.length ≤ 140)
theorem ok_law_row_by (T : Txt K mg) : FnOk P w K mg base CX0 2 T.a_law_row_by T.d_law_row_by ["_law_name", "_law_numbers"] spRow := by
  refine T.h_law_row_by.F.ok sc_law_row_by (fun vs H Q E h => ?_) (fun cdv A outer s H vs Q E hr h => ?_)
  · obtain ⟨c, rfl, _⟩ := h
    rfl
  · obtain ⟨⟨c, m⟩, rfl, _, k⟩ := h
    simp only at k
    refine ⟨_, (pss_cons (ps_set (i := 2) sc_law_row_by.nd rfl (by first | exact Or.inl rfl | exact Or.inr rfl) (pe_lst pa_nil)) (pss_cons (ps_for PassesOwn.never rfl (pi_range1 (by rfl) T.n_range (pa_cons pe_int pa_nil)) (pg_name (i := 3) sc_law_row_by.nd rfl (by first | exact Or.inl rfl | exact Or.inr rfl)) (pss_cons (ps_set (i := 4) sc_law_row_by.nd rfl (by first | exact Or.inl rfl | exact Or.inr rfl) (pv 1)) (pss_cut (ps_if (pt_cmpR op_eq (pv 3) pe_int (nomark _)) (pss_one (ps_set (i := 4) sc_law_row_by.nd rfl (by first | exact Or.inl rfl | exact Or.inr rfl) (pe_op op_fdiv (pv 1) pe_int))) pss_nil) (pss_cons (ps_set (i := 5) sc_law_row_by.nd rfl (by first | exact Or.inl rfl | exact Or.inr rfl) (pe_op op_mod (pe_op op_fdiv (pv 4) pe_int) pe_int)) (pss_cut (ps_if (pt_cmpR op_eq (pe_op op_mod (pv 4) pe_int) pe_int (nomark _)) (pss_one (ps_set (i := 5) sc_law_row_by.nd rfl (by first | exact Or.inl rfl | exact Or.inr rfl) pe_int)) pss_nil) (pss_cut (ps_if (pt_cmpR op_eq (pe_op op_mod (pv 4) pe_int) pe_int (nomark _)) (pss_one (ps_set (i := 5) sc_law_row_by.nd rfl (by first | exact Or.inl rfl | exact Or.inr rfl) (pe_op op_add (pe_op op_sub (pe_op op_pow pe_int pe_int) pe_int) (pe_op op_mod (pe_op op_fdiv (pv 4) pe_int) pe_int)))) pss_nil) (pss_one (ps_expr (pe_bm PySem.F.plainAttrs_list PySem.F.slot_list_append PySem.F.type_list_append mt_append (pv 2) (pa_cons (pe_op op_add_str (pe_op op_mul_str pe_str (pe_callTy call_int1 (by rfl) T.n_int (by decide +kernel) (pa_cons (pe_and (pe_cmpR op_eq (pe_op op_mod (pv 4) pe_int) pe_int (nomark _)) (pe_one (pe_cmpR op_eq (pe_op op_mod (pe_op op_fdiv (pv 4) pe_int) pe_int) pe_int (nomark _)))) pa_nil))) (pe_callTy call_str_int (by rfl) T.n_str (by decide +kernel) (pa_cons (pv 5) pa_nil))) pa_nil)))))))))) (pss_cons (ps_set (i := 6) sc_law_row_by.nd rfl (by first | exact Or.inl rfl | exact Or.inr rfl) (pe_call (ok_law_name_by T) (hr.mono (by decide)) rfl T.h_law_name_by.m T.h_law_name_by.F.kp T.h_law_name_by.b .nil pass0 (pa_cons (pv 0) pa_nil))) (pss_cut (ps_if (pt_cmpR op_eq (pe_op op_mod (pe_op op_fdiv (pv 0) pe_int) pe_int) pe_int (nomark _)) (pss_one (ps_set (i := 6) sc_law_row_by.nd rfl (by first | exact Or.inl rfl | exact Or.inr rfl) (pe_op op_add_str (pv 6) pe_str))) pss_nil) (pss_one (ps_ret (pe_op op_add_str (pe_op op_add_str (pe_op op_add_str (pe_op op_add_str (pv 6) pe_str) (pe_ix ix_list (pv 2) pe_int (fun _ _ => rfl))) pe_str) (pe_ix ix_list (pv 2) pe_int (fun _ _ => rfl))))))))), ?_⟩
    refine q_asgL (el_lst ea_nil (by decide)) fun l H1 hl0 e1 hl1 => ?_
    refine q_forR1 (n := 2) (ea_cons ev_c ea_nil) (by decide) (fun i σ' H' => ∃ s3 s4 s5 fs, σ' = [some (.int c), some (.int m), some (.ref l), s3, s4, s5, none] ∧ Ex H H' ∧ H' l = some (.lst (fs.map fun f : List Nat => V.str (ofL f))) ∧ fs.length = i ∧ ∀ f ∈ fs, f.length ≤ 62) (fun H2 e2 => ⟨none, none, none, [], rfl, e1.trans e2, e2 _ _ hl1, rfl, fun f hf => by cases hf⟩) ?_ ?_
    · rintro i σ' H2 hi ⟨s3, s4, s5, fs, rfl, e2, h2, h3, h4⟩
      refine q_asg (ev_var rfl) fun H3 e3 => ?_
      refine q_cut (M := fun σ' H' => ∃ cell, σ' = [some (.int c), some (.int m), some (.ref l), some (.int (i : Int)), some (.int cell), s5, none] ∧ Ex H2 H') ?_ ?_
      · refine s_when (b := decide (V.int (i : Int) = V.int 1)) (by walk_at "ev") (fun hb H4 e4 => ?_) (fun hb H4 e4 => ?_)
        · exact s_asg (v := .int (m / 6000)) (by walk_at "ev") fun H5 e5 => ⟨_, rfl, (e3.trans e4).trans e5⟩
        · exact ⟨_, rfl, e3.trans e4⟩
      rintro σ' H4 ⟨cell, rfl, e4⟩
      have c1 := Int.emod_nonneg (cell / 6) (by decide : (1000 : Int) ≠ 0)
      have c2 := Int.emod_lt_of_pos (cell / 6) (by decide : (0 : Int) < 1000)
      refine q_asg (v := .int (cell / 6 % 1000)) (by walk_at "ev") fun H5 e5 => ?_
      refine q_cut (M := fun σ' H' => ∃ n, σ' = [some (.int c), some (.int m), some (.ref l), some (.int (i : Int)), some (.int cell), some (.int n), none] ∧ Ex H2 H' ∧ 0 ≤ n ∧ n ≤ T60) ?_ ?_
      · refine s_when (b := decide (V.int (cell % 6) = V.int 0)) (by walk_at "ev") (fun hb H6 e6 => ?_) (fun hb H6 e6 => ?_)
        · exact s_asg (v := .int 0) ev_c fun H7 e7 => ⟨_, rfl, ((e4.trans e5).trans e6).trans e7, by decide, by decide⟩
        · exact ⟨_, rfl, (e4.trans e5).trans e6, c1, Int.le_trans (Int.le_of_lt c2) (by decide)⟩
      rintro σ' H6 ⟨n0, rfl, e6, n1, n2⟩
      refine q_cut (M := fun σ' H' => ∃ n, σ' = [some (.int c), some (.int m), some (.ref l), some (.int (i : Int)), some (.int cell), some (.int n), none] ∧ Ex H2 H' ∧ 0 ≤ n ∧ n ≤ T60) ?_ ?_
      · refine s_when (b := decide (V.int (cell % 6) = V.int 1)) (by walk_at "ev") (fun hb H7 e7 => ?_) (fun hb H7 e7 => ?_)
        · have d1 := Int.emod_nonneg (cell / 6) (by decide : (2 : Int) ≠ 0)
          have d2 := Int.emod_lt_of_pos (cell / 6) (by decide : (0 : Int) < 2)
          have ep : (10 : Int) ^ (60 : Int).toNat = T60 := by decide +kernel
          refine s_asg (v := .int (10 ^ (60 : Int).toNat - 1 + cell / 6 % 2)) (by walk_at "ev") fun H8 e8 => ⟨_, rfl, (e6.trans e7).trans e8, ?_, ?_⟩
          · rw [ep]
            have : (1 : Int) ≤ T60 := by decide
            omega
          · rw [ep]
            omega
        · exact ⟨_, rfl, e6.trans e7, n1, n2⟩
      rintro σ' H7 ⟨n, rfl, e7, n3, n4⟩
      obtain ⟨hlog, hnl⟩ := log_le n3 n4
      have hA : Ev (tC (.str (Str.ofString "0"))) [some (.int c), some (.int m), some (.ref l), some (.int (i : Int)), some (.int cell), some (.int n), none] H7 (.str (ofL [48])) := ev_is ev_c (congrArg V.str (by decide +kernel))
      have efs : (fs.map fun f : List Nat => V.str (ofL f)) ++ [V.str (ofL ((if (decide (V.int (cell % 6) = V.int 2) && decide (V.int (cell / 6 % 3) = V.int 0)) = true then [48] else []) ++ TL.numL n.toNat))] = ((fs ++ [(if (decide (V.int (cell % 6) = V.int 2) && decide (V.int (cell / 6 % 3) = V.int 0)) = true then [48] else []) ++ TL.numL n.toNat]).map fun f : List Nat => V.str (ofL f)) := by simp
      have hzl : ((if (decide (V.int (cell % 6) = V.int 2) && decide (V.int (cell / 6 % 3) = V.int 0)) = true then [48] else []) : List Nat).length ≤ 1 := by split <;> simp
      generalize hB : (decide (V.int (cell % 6) = V.int 2) && decide (V.int (cell / 6 % 3) = V.int 0)) = B at efs hzl
      have hE := e7 _ _ h2
      refine s_app hE (ev_var rfl) (ev_addL (a := if B = true then [48] else []) (b := TL.numL n.toNat) (ev_is (ev_op (x := .str (ofL [48])) hA (ev_cb (ea_cons (x := .bl B) (ev_is (ev_andV (a := decide (V.int (cell % 6) = V.int 2)) (b := decide (V.int (cell / 6 % 3) = V.int 0)) (by walk_at "ev") fun _ => by walk_at "ev") (by rw [hB])) ea_nil) rc_intB) rv_mulStr) (by cases B <;> rfl)) (ev_is (ev_cb (ea_cons (ev_var rfl) ea_nil) (rc_strI hlog)) (congrArg V.str (num_ofL n3))) (by omega)) (by rw [List.length_map]; omega) fun H8 e8 => ?_
      refine ⟨_, _, _, fs ++ [(if B = true then [48] else []) ++ TL.numL n.toNat], rfl, Ex.mut (e2.trans (e7.trans e8)) (fresh_back (Ex.refl _) hl0), ?_, ?_, ?_⟩
      · rw [upd_same, efs]
      · rw [List.length_append, h3]
        rfl
      · intro f hf
        rcases List.mem_append.mp hf with hf | hf
        · exact h4 f hf
        · rw [List.mem_singleton.mp hf, List.length_append]
          omega
    · rintro σ' H2 ⟨s3, s4, s5, fs, rfl, e2, h2, h3, h4⟩
      obtain ⟨f0, f1, rfl⟩ : ∃ f0 f1, fs = [f0, f1] := by
        match fs, h3 with
        | [f0, f1], _ => exact ⟨f0, f1, rfl⟩
      have l0 := h4 f0 (by simp)
      have l1 := h4 f1 (by simp)
      have hn := nameBy_good c
      have hn8 := hn.2.1
      refine q_asg (v := .str (ofL (nameBy c))) (by walk_at "ev") fun H3 e3 => ?_
      refine q_cut (M := fun σ' H' => ∃ wd, σ' = [some (.int c), some (.int m), some (.ref l), s3, s4, s5, some (.str (ofL wd))] ∧ Ex H2 H' ∧ wd.length ≤ 9) ?_ ?_
      · refine s_when (b := decide (V.int (c / 2163200 % 6) = V.int 1)) (by walk_at "ev") (fun hb H4 e4 => ?_) (fun hb H4 e4 => ?_)
        · exact s_asg (v := .str (ofL (nameBy c ++ [113]))) (ev_addL (ev_var rfl) (ev_is ev_c (congrArg V.str (by decide +kernel))) (by simp; omega)) fun H5 e5 => ⟨_, rfl, (e3.trans e4).trans e5, by rw [List.length_append]; simp; omega⟩
        · exact ⟨_, rfl, e3.trans e4, by omega⟩
      rintro σ' H4 ⟨wd, rfl, e4, hw⟩
      have hs := sq_of (K := K) (e4 _ _ h2)
      refine s_ret (v := .str (ofL ((((wd ++ [32, 43]) ++ f0) ++ [32, 45]) ++ f1))) (ev_addL (ev_addL (ev_addL (ev_addL (ev_var rfl) (ev_is ev_c (congrArg V.str (by decide +kernel))) (by simp; omega)) (ev_op (ev_var rfl) ev_c (rv_ixL hs rfl)) (by simp; omega)) (ev_is ev_c (congrArg V.str (by decide +kernel))) (by simp; omega)) (ev_op (ev_var rfl) ev_c (rv_ixL hs rfl)) (by simp; omega)) fun H5 e5 => k _ _ (e2.trans (e4.trans e5)) ⟨_, rfl, by simp; omega⟩
end

--CUT notei
/-! ### the law's text, bent -/
section
variable {P : Program} {w : World} {K : PySem.W.Frag} {mg : Str → Option Value} {base : Heap}
abbrev spBent : Sp := SpF (fun x : List Nat × Int => [.str (ofL x.1), .int x.2]) (fun x _ => x.1.length ≤ 500) (fun _ _ v _ => ∃ r : List Nat, v = .str (ofL r) ∧ r.length ≤ 520)
theorem ok_law_bent (T : Txt K mg) : FnOk P w K mg base CX0 2 T.a_law_bent T.d_law_bent ["_law_text", "_law_cell"] spBent := by
  refine T.h_law_bent.F.ok sc_law_bent (fun vs H Q E h => ?_) (fun cdv A outer s H vs Q E hr h => ?_)
  · obtain ⟨c, rfl, _⟩ := h
    rfl
  · obtain ⟨⟨L, c⟩, rfl, hl, k⟩ := h
    simp only at hl k
    refine ⟨_, (pss_cons (ps_set (i := 2) sc_law_bent.nd rfl (by first | exact Or.inl rfl | exact Or.inr rfl) (pe_callB call_len_str (by rfl) T.n_len PySem.boot_len (pa_cons (pv 0) pa_nil))) (pss_cons (ps_set (i := 3) sc_law_bent.nd rfl (by first | exact Or.inl rfl | exact Or.inr rfl) (pe_op op_mod (pe_op op_fdiv (pv 1) pe_int) (pe_op op_add (pv 2) pe_int))) (pss_cons (ps_set (i := 4) sc_law_bent.nd rfl (by first | exact Or.inl rfl | exact Or.inr rfl) (pe_call (ok_law_sign_by T) (hr.mono (by decide)) rfl T.h_law_sign_by.m T.h_law_sign_by.F.kp T.h_law_sign_by.b .nil pass0 (pa_cons (pe_op op_fdiv (pe_op op_fdiv (pv 1) pe_int) (pe_op op_add (pv 2) pe_int)) pa_nil))) (pss_cons (ps_if (pt_cmpR op_eq (pe_op op_mod (pv 1) pe_int) pe_int (nomark _)) (pss_one (ps_ret (pe_op op_add_str (pe_op op_add_str (pe_slice sl_str (pv 0) po_none (po_some (pv 3))) (pv 4)) (pe_slice sl_str (pv 0) (po_some (pv 3)) po_none)))) pss_nil) (pss_cons (ps_if (pt_cmpR op_eq (pe_op op_mod (pv 1) pe_int) pe_int (nomark _)) (pss_one (ps_ret (pe_op op_add_str (pe_slice sl_str (pv 0) po_none (po_some (pv 3))) (pe_slice sl_str (pv 0) (po_some (pe_op op_add (pv 3) pe_int)) po_none)))) pss_nil) (pss_cons (ps_if (pt_cmpR op_eq (pe_op op_mod (pv 1) pe_int) pe_int (nomark _)) (pss_one (ps_ret (pe_op op_add_str (pe_op op_add_str (pe_slice sl_str (pv 0) po_none (po_some (pv 3))) (pv 4)) (pe_slice sl_str (pv 0) (po_some (pe_op op_add (pv 3) pe_int)) po_none)))) pss_nil) (pss_cons (ps_set (i := 5) sc_law_bent.nd rfl (by first | exact Or.inl rfl | exact Or.inr rfl) (pe_lst (pa_cons pe_str (pa_cons pe_str (pa_cons pe_str (pa_cons pe_str (pa_cons pe_str (pa_cons pe_str (pa_cons pe_str (pa_cons pe_str (pa_cons pe_str pa_nil))))))))))) (pss_cons (ps_set (i := 5) sc_law_bent.nd rfl (by first | exact Or.inl rfl | exact Or.inr rfl) (pe_op op_cat (pv 5) (pe_lst (pa_cons pe_str (pa_cons pe_str (pa_cons pe_str (pa_cons pe_str pa_nil))))))) (pss_one (ps_ret (pe_ix ix_list (pv 5) (pe_op op_mod (pe_op op_fdiv (pv 1) pe_int) pe_int) (fun _ _ => rfl)))))))))))), ?_⟩
    have hl1 : L.length ≤ 100000 := by omega
    have hz : (0 : Int) < (L.length : Int) + 1 := by omega
    have m1 := Int.emod_nonneg (c / 4) (by omega : (L.length : Int) + 1 ≠ 0)
    have m2 := Int.emod_lt_of_pos (c / 4) hz
    refine q_asg (v := .int (L.length : Int)) (ev_is (ev_cb (ea_cons (ev_var rfl) ea_nil) (rc_lenStr (by rw [ofL_len]; exact hl1))) (by rw [ofL_len])) fun H1 e1 => ?_
    refine q_asg (v := .int (c / 4 % ((L.length : Int) + 1))) (ev_op (ev_op (ev_var rfl) ev_c (rv_I ⟨by decide, by decide⟩)) (ev_op (ev_var rfl) ev_c rv_I0) (rv_I hz)) fun H2 e2 => ?_
    obtain ⟨j, hj⟩ : ∃ j : Nat, c / 4 % ((L.length : Int) + 1) = (j : Int) := ⟨(c / 4 % ((L.length : Int) + 1)).toNat, by omega⟩
    rw [hj] at m1 m2 ⊢
    refine qx_asg (P := fun v _ => ∃ x : Nat, v = .str (ofL [x])) (x_call1 (x_ev (v := .int (c / 4 / ((L.length : Int) + 1))) (ev_op (ev_op (ev_var rfl) ev_c (rv_I ⟨by decide, by decide⟩)) (ev_op (ev_var rfl) ev_c rv_I0) (rv_I ⟨hz, by omega⟩))) (by
      rintro _ H3 e3 rfl
      exact sx_of (c / 4 / ((L.length : Int) + 1)) (fun _ _ => trivial) fun _ _ _ _ _ h => h)) ?_
    rintro v H3 e3 ⟨x, rfl⟩
    have e03 := (e1.trans e2).trans e3
    have ht : (L.take j).length ≤ 500 := by rw [List.length_take]; omega
    have hd : (L.drop j).length ≤ 500 := by rw [List.length_drop]; omega
    have hd1 : (L.drop (j + 1)).length ≤ 500 := by rw [List.length_drop]; omega
    have hlt : (L.take j).length + (L.drop j).length ≤ 500 := by rw [List.length_take, List.length_drop]; omega
    have hlt1 : (L.take j).length + (L.drop (j + 1)).length ≤ 500 := by rw [List.length_take, List.length_drop]; omega
    have vt : ∀ {H'}, Ev (tSl rSlS (tVar 0) tNoPart (tPart (tVar 3))) [some (.str (ofL L)), some (.int c), some (.int (L.length : Int)), some (.int (j : Int)), some (.str (ofL [x])), none] H' (.str (ofL (L.take j))) := ev_slS1 (ev_var rfl) (ev_var rfl) hl1
    have vd : ∀ {H'}, Ev (tSl rSlS (tVar 0) (tPart (tVar 3)) tNoPart) [some (.str (ofL L)), some (.int c), some (.int (L.length : Int)), some (.int (j : Int)), some (.str (ofL [x])), none] H' (.str (ofL (L.drop j))) := ev_slS2 (ev_var rfl) (ev_var rfl) hl1
    have vd1 : ∀ {H'}, Ev (tSl rSlS (tVar 0) (tPart (tOp (rI0 fun i j => .int (i + j)) (tVar 3) (tC (.int 1)))) tNoPart) [some (.str (ofL L)), some (.int c), some (.int (L.length : Int)), some (.int (j : Int)), some (.str (ofL [x])), none] H' (.str (ofL (L.drop (j + 1)))) := ev_slS2 (n := j + 1) (ev_var rfl) (ev_op (ev_var rfl) ev_c rv_I0) hl1
    refine q_when (b := decide (V.int (c % 4) = V.int 0)) (by walk_at "ev") (fun _ H4 e4 => ?_) (fun _ H4 e4 => ?_)
    · exact s_ret (v := .str (ofL ((L.take j ++ [x]) ++ L.drop j))) (ev_addL (ev_addL vt (ev_var rfl) (by simp only [List.length_singleton]; omega)) vd (by simp only [List.length_append, List.length_singleton]; omega)) fun H5 e5 => k _ _ ((e03.trans e4).trans e5) ⟨_, rfl, by simp only [List.length_append, List.length_singleton]; omega⟩
    refine q_when (b := decide (V.int (c % 4) = V.int 1)) (by walk_at "ev") (fun _ H5 e5 => ?_) (fun _ H5 e5 => ?_)
    · exact s_ret (v := .str (ofL (L.take j ++ L.drop (j + 1)))) (ev_addL vt vd1 (by omega)) fun H6 e6 => k _ _ (((e03.trans e4).trans e5).trans e6) ⟨_, rfl, by simp only [List.length_append]; omega⟩
    refine q_when (b := decide (V.int (c % 4) = V.int 2)) (by walk_at "ev") (fun _ H6 e6 => ?_) (fun _ H6 e6 => ?_)
    · exact s_ret (v := .str (ofL ((L.take j ++ [x]) ++ L.drop (j + 1)))) (ev_addL (ev_addL vt (ev_var rfl) (by simp only [List.length_singleton]; omega)) vd1 (by simp only [List.length_append, List.length_singleton]; omega)) fun H7 e7 => k _ _ ((((e03.trans e4).trans e5).trans e6).trans e7) ⟨_, rfl, by simp only [List.length_append, List.length_singleton]; omega⟩
    have e06 := ((e03.trans e4).trans e5).trans e6
    refine q_asgL (el_lst (ea_cons ev_c (ea_cons ev_c (ea_cons ev_c (ea_cons ev_c (ea_cons ev_c (ea_cons ev_c (ea_cons ev_c (ea_cons ev_c (ea_cons ev_c ea_nil))))))))) (Nat.le_of_ble_eq_true rfl)) fun p H7 hp e7 h7 => ?_
    refine q_asgL (el_cat (ev_var rfl) h7 (el_lst (ea_cons ev_c (ea_cons ev_c (ea_cons ev_c (ea_cons ev_c ea_nil)))) (Nat.le_of_ble_eq_true rfl)) (Nat.le_of_ble_eq_true rfl)) fun q H8 hq e8 h8 => ?_
    have d1 := Int.emod_nonneg (c / 4) (by decide : (13 : Int) ≠ 0)
    have d2 := Int.emod_lt_of_pos (c / 4) (by decide : (0 : Int) < 13)
    have key : ∀ (zs : List Str) (xs : List V), xs = zs.map V.str → zs.length = 13 → zs.all (fun z => decide (z.length ≤ 40)) = true → ∃ r : List Nat, atI xs (c / 4 % 13) = some (.str (ofL r)) ∧ r.length ≤ 40 := by
      intro zs xs hx h13 hall
      have hlt : (c / 4 % 13).toNat < zs.length := by omega
      refine ⟨zs[(c / 4 % 13).toNat].cps.toList, ?_, ?_⟩
      · rw [ofL_eta]
        refine atI_of d1 ?_
        rw [hx, List.getElem?_map, List.getElem?_eq_getElem hlt]
        rfl
      · have := of_decide_eq_true (List.all_eq_true.mp hall _ (List.getElem_mem hlt))
        rw [← ofL_eta zs[(c / 4 % 13).toNat], ofL_len] at this
        exact this
    obtain ⟨r, hr1, hr2⟩ := key [Str.ofString "nobody ", Str.ofString " nobody", Str.ofString "Nobody", Str.ofString "nobody, nobody", Str.ofString "", Str.ofString " ", Str.ofString ", ", Str.ofString "nobody +0 -0", Str.ofString "nobody +1 -0", Str.ofString "anna +5\t-2", Str.ofString "anna\t+5 -2", Str.ofString "a +1 -0,\tb +0 -1", Str.ofString "a +1  -0"] _ rfl rfl (by decide +kernel)
    refine s_ret (v := .str (ofL r)) (ev_op (ev_var rfl) (ev_op (ev_op (ev_var rfl) ev_c (rv_I ⟨by decide, by decide⟩)) ev_c (rv_I (by show (0 : Int) < 13; decide))) (rv_ixL (sq_of h8) hr1)) fun H9 e9 => k _ _ (((e06.trans e7).trans e8).trans e9) ⟨r, rfl, by omega⟩
end

--CUT notej
/-! ### what the law takes as due -/
section
variable {P : Program} {w : World} {K : PySem.W.Frag} {mg : Str → Option Value} {base : Heap}
abbrev spDue (K : PySem.W.Frag) : Sp := SpF (fun L : List Nat => [.str (ofL L)]) (fun L _ => L.length ≤ 1000) (fun L _ v H2 => (∃ p d, Due L p ∧ v = .ref d ∧ PgAt K H2 d p) ∨ (v = .non ∧ ∀ p, ¬ Due L p))
theorem numV_pos {c : Nat} {u : List Nat} (h : NumW c u) : numV c u = (PySem.NumText.digitsVal (u.drop 1) : Nat) := by
  unfold numV
  rw [if_pos h]
theorem numV_neg {c : Nat} {u : List Nat} (h : ¬ NumW c u) : numV c u = -1 := by
  unfold numV
  rw [if_neg h]
theorem PgAt.put1 {H : Hp} {d q : Addr} {p : Pg} {n : Nm} {s : Int × Int} {kvs : List (Key × V)} (hd : H d = some (.dK kvs)) (h : PgV K H kvs p ∧ (p.map (·.1)).Nodup ∧ (∀ e ∈ p, NmOk e.1) ∧ p.length ≤ 1000) (hn : NmOk n) (hq : SqT K H q [.int s.1, .int s.2]) (hl : p.length < 1000) :
    PgAt K (upd H d (.dK (putK kvs (.inr (ofL n)) (.ref q)))) d (putP p n s) :=
  ⟨_, upd_same, (h.1.put hq).to fun _ _ => upd_t hd, putP_nd h.2.1, putP_ok h.2.2.1 hn, Nat.le_trans putP_len hl⟩
/-- so far, the page of the first i parts; the last name read -/
def SoFar (L : List Nat) (i : Nat) (last : Nm) (p : Pg) : Prop := (∀ e ∈ p, GoodX e) ∧ (p.map (·.1)).Pairwise (· < ·) ∧ (∀ e ∈ p, e.1 = last ∨ e.1 < last) ∧ (TL.spl [44, 32] 0 [] L).take i = p.map entP ∧
  (∀ q, WrP L q → ∀ e, q[i]? = some e → last < e.1) ∧ p.length = i
theorem sofar0 {L : List Nat} : SoFar L 0 [] [] := ⟨(fun e he => by cases he), .nil, (fun e he => by cases he), by rw [List.take_zero]; rfl, (fun q hq e he => by
  have := (hq.2.1 e (List.mem_of_getElem? he)).1.1
  cases h : e.1 with
  | nil =>
    rw [h] at this
    simp at this
  | cons a r => exact List.nil_lt_cons a r), rfl⟩
theorem sofar_step {L : List Nat} {i : Nat} {last c : List Nat} {p : Pg} {e : Nm × Int × Int} (h : SoFar L i last p) (hc : (TL.spl [44, 32] 0 [] L)[i]? = some c) (he : LwE last c e) : SoFar L (i + 1) e.1 (p ++ [e]) ∧ e.1 ∉ p.map (·.1) := by
  obtain ⟨h1, h2, h3, h4, h5, h6⟩ := h
  obtain ⟨g1, rfl, g2⟩ := lw_ent he
  have hlt : ∀ x ∈ p, x.1 < e.1 := fun x hx => by
    rcases h3 x hx with z | z
    · rw [z]
      exact g2
    · exact List.lt_trans z g2
  refine ⟨⟨?_, ?_, ?_, ?_, ?_, ?_⟩, ?_⟩
  · intro x hx
    rcases List.mem_append.mp hx with hx | hx
    · exact h1 x hx
    · rw [List.mem_singleton.mp hx]
      exact g1
  · rw [List.map_append, List.pairwise_append]
    refine ⟨h2, List.pairwise_singleton _ _, fun a ha b hb => ?_⟩
    rw [List.mem_singleton.mp hb]
    obtain ⟨x, hx, rfl⟩ := List.mem_map.mp ha
    exact hlt x hx
  · intro x hx
    rcases List.mem_append.mp hx with hx | hx
    · exact .inr (hlt x hx)
    · exact .inl (by rw [List.mem_singleton.mp hx])
  · rw [take_snoc' hc, h4, List.map_append]
    rfl
  · intro q hq f hf
    have hqp := hq.2.2.1
    have hi : i + 1 < q.length := (List.getElem?_eq_some_iff.mp hf).1
    have hqi : q[i]? = some q[i] := List.getElem?_eq_getElem (by omega)
    have e1 : entP q[i] = entP e := by
      have := wr_parts hq
      rw [this, List.getElem?_map, hqi] at hc
      exact Option.some.inj hc
    have e2 : q[i] = e := rd_fun (rd_ent (hq.2.1 _ (List.getElem_mem _))) (by rw [e1]; exact rd_ent g1)
    have := List.pairwise_iff_getElem.mp hqp i (i + 1) (by rw [List.length_map]; omega) (by rw [List.length_map]; omega) (by omega)
    rw [List.getElem_map, List.getElem_map, e2] at this
    have e3 : q[i + 1] = f := by
      rw [List.getElem?_eq_getElem hi] at hf
      exact Option.some.inj hf
    rw [e3] at this
    exact this
  · rw [List.length_append, h6]
    rfl
  · intro z
    obtain ⟨x, hx, hxe⟩ := List.mem_map.mp z
    have := hlt x hx
    rw [hxe] at this
    exact lt_irr _ this
theorem sofar_no {L : List Nat} {i : Nat} {last c : List Nat} {p : Pg} (h : SoFar L i last p) (hc : (TL.spl [44, 32] 0 [] L)[i]? = some c) (hn : ¬ ∃ e, LwE last c e) : ∀ q, ¬ WrP L q := fun q hq => by
  have h0 := hc
  rw [wr_parts hq, List.getElem?_map] at h0
  cases hqi : q[i]? with
  | none =>
    rw [hqi] at h0
    cases h0
  | some e =>
    rw [hqi] at h0
    obtain rfl := Option.some.inj h0
    exact hn ⟨e, ent_lw (hq.2.1 e (List.mem_of_getElem? hqi)) (h.2.2.2.2.1 q hq e hqi)⟩
theorem sofar_end {L : List Nat} {last : List Nat} {p : Pg} (h : SoFar L (TL.spl [44, 32] 0 [] L).length last p) : WrP L p := by
  obtain ⟨h1, h2, _, h4, _, h6⟩ := h
  rw [List.take_length] at h4
  refine ⟨fun z => ?_, h1, h2, ?_⟩
  · rw [z, List.length_nil] at h6
    exact spl_ne L 0 [] (List.length_eq_zero_iff.mp h6.symm)
  · rw [← h4]
    exact (spl_back (by simp) L).symm
open Classical in
theorem ok_law_due (T : Txt K mg) : FnOk P w K mg base CX0 2 T.a_law_due T.d_law_due ["_law_text"] (spDue K) := by
  refine T.h_law_due.F.ok sc_law_due (fun vs H Q E h => ?_) (fun cdv A outer s H vs Q E hr h => ?_)
  · obtain ⟨c, rfl, _⟩ := h
    rfl
  · obtain ⟨L, rfl, hl, k⟩ := h
    refine ⟨_, (pss_cons (ps_set (i := 1) sc_law_due.nd rfl (by first | exact Or.inl rfl | exact Or.inr rfl) pe_dnewK) (pss_cons (ps_set (i := 2) sc_law_due.nd rfl (by first | exact Or.inl rfl | exact Or.inr rfl) pe_str) (pss_cons (ps_if (pt_cmpR op_eq (pv 0) pe_str (nomark _)) (pss_one (ps_ret (pv 1))) pss_nil) (pss_cons (ps_for PassesOwn.never rfl (pi_list (pe_bm PySem.F.plainAttrs_str PySem.F.slot_str_split PySem.F.type_str_split mt_split (pv 0) (pa_cons pe_str pa_nil))) (pg_name (i := 3) sc_law_due.nd rfl (by first | exact Or.inl rfl | exact Or.inr rfl)) (pss_cons (ps_set (i := 4) sc_law_due.nd rfl (by first | exact Or.inl rfl | exact Or.inr rfl) (pe_bm PySem.F.plainAttrs_str PySem.F.slot_str_split PySem.F.type_str_split mt_split (pv 3) (pa_cons pe_str pa_nil))) (pss_cons (ps_if (PW.pt (pw_or (pt_cmpR op_ne (pe_callB call_len_seq (by rfl) T.n_len PySem.boot_len (pa_cons (pv 4) pa_nil)) pe_int (nomark _)) (pw_or (pt_not (pt_val (pe_call (ok_law_named T) (hr.mono (by decide)) rfl T.h_law_named.m T.h_law_named.F.kp T.h_law_named.b .nil pass0 (pa_cons (pe_ix ix_list (pv 4) pe_int (fun _ _ => rfl)) pa_nil)))) (pw_or1 (pt_cmpR op_le_str (pe_ix ix_list (pv 4) pe_int (fun _ _ => rfl)) (pv 2) (nomark _)))))) (pss_one (ps_ret pe_non)) pss_nil) (pss_cons (ps_set (i := 5) sc_law_due.nd rfl (by first | exact Or.inl rfl | exact Or.inr rfl) (pe_tup (pa_cons (pe_call (ok_law_number_of T) (hr.mono (by decide)) rfl T.h_law_number_of.m T.h_law_number_of.F.kp T.h_law_number_of.b .nil pass0 (pa_cons (pe_ix ix_list (pv 4) pe_int (fun _ _ => rfl)) (pa_cons pe_str pa_nil))) (pa_cons (pe_call (ok_law_number_of T) (hr.mono (by decide)) rfl T.h_law_number_of.m T.h_law_number_of.F.kp T.h_law_number_of.b .nil pass0 (pa_cons (pe_ix ix_list (pv 4) pe_int (fun _ _ => rfl)) (pa_cons pe_str pa_nil))) pa_nil)))) (pss_cons (ps_if (PW.pt (pw_or (pt_cmpR op_lt (pe_ix ix_tup (pv 5) pe_int (fun _ _ => rfl)) pe_int (nomark _)) (pw_or (pt_cmpR op_lt (pe_ix ix_tup (pv 5) pe_int (fun _ _ => rfl)) pe_int (nomark _)) (pw_or1 (pt_cmpR (op_eqD hr.units) (pv 5) (pe_tup (pa_cons pe_int (pa_cons pe_int pa_nil))) (nomark _)))))) (pss_one (ps_ret pe_non)) pss_nil) (pss_cons (ps_set (i := 2) sc_law_due.nd rfl (by first | exact Or.inl rfl | exact Or.inr rfl) (pe_ix ix_list (pv 4) pe_int (fun _ _ => rfl))) (pss_one (ps_dput (hu_of hr) (pv 1) (pv 2) (pv 5) rfl)))))))) (pss_one (ps_ret (pv 1))))))), ?_⟩
    have e43 : V.str (Str.ofString "+") = .str (ofL [43]) := congrArg V.str (by decide +kernel)
    have e45 : V.str (Str.ofString "-") = .str (ofL [45]) := congrArg V.str (by decide +kernel)
    refine qx_asg x_dnew ?_
    rintro v H1 e1 ⟨d, rfl, hd0, hd⟩
    refine q_asg (v := .str (ofL [])) (ev_is ev_c rfl) fun H2 e2 => ?_
    refine q_when (b := decide (V.str (ofL L) = V.str (ofL nobL))) (et_test (ev_op (ev_var rfl) (ev_is ev_c (congrArg V.str (by decide +kernel))) (rv_eq rfl))) (fun hb H3 e3 => ?_) (fun hb H3 e3 => ?_)
    · have hL : L = nobL := ofL_inj (V.str.inj (of_decide_eq_true hb))
      exact s_ret (ev_var rfl) fun H4 e4 => k _ _ (((e1.trans e2).trans e3).trans e4) (.inl ⟨[], d, .inl ⟨hL, rfl⟩, rfl, PgAt.nil (e4 _ _ (e3 _ _ (e2 _ _ hd)))⟩)
    have hL : L ≠ nobL := fun z => of_decide_eq_false hb (by rw [z])
    have hno : ∀ {H' : Hp}, Ex H H' → (∀ p, ¬ WrP L p) → Q .non H' := fun e h => k _ _ e (.inr ⟨rfl, fun p hp => by
      rcases hp with ⟨z, _⟩ | ⟨_, z⟩
      · exact hL z
      · exact h p z⟩)
    have hcnt : 2 * (TL.spl [44, 32] 0 [] L).length ≤ 1002 := by
      have := joinL_cnt (S := [44, 32]) (TL.spl [44, 32] 0 [] L)
      rw [spl_back (by simp)] at this
      simp only [List.length_cons, List.length_nil] at this
      omega
    refine q_forNLn (K := K) (el_split (K := K) (b := [44, 32]) (by simp) (by decide) (by decide +kernel) (ev_var rfl) (by omega)) (fun l i σ' H' => ∃ last s3 s4 s5 p, σ' = [some (.str (ofL L)), some (.ref d), some (.str (ofL last)), s3, s4, s5] ∧ Ex H H' ∧ PgAt K H' d p ∧ H' l = some (.lst ((TL.spl [44, 32] 0 [] L).map fun p => V.str (ofL p))) ∧ SoFar L i last p) ?_ ?_ ?_ ?_
    · intro l H4 hl0 e4 hl4
      exact ⟨[], none, none, none, [], rfl, ((e1.trans e2).trans e3).trans e4, PgAt.nil (e4 _ _ (e3 _ _ (e2 _ _ hd))), hl4, sofar0⟩
    · rintro l i σ' H' hi ⟨last, s3, s4, s5, p, rfl, e4, h1, h2, h3⟩
      exact sq_of h2
    · rintro l i x σ' H4 hx ⟨last, s3, s4, s5, p, rfl, e4, h1, h2, h3⟩
      rw [List.getElem?_map] at hx
      cases hc : (TL.spl [44, 32] 0 [] L)[i]? with
      | none =>
        rw [hc] at hx
        cases hx
      | some c =>
        rw [hc] at hx
        obtain rfl := Option.some.inj hx
        have hcl : c.length ≤ 1000 := Nat.le_trans (part_len (by simp) (List.mem_of_getElem? hc)) hl
        have hi : i < (TL.spl [44, 32] 0 [] L).length := (List.getElem?_eq_some_iff.mp hc).1
        refine q_asgL (el_split (K := K) (b := [32]) (by simp) (by decide) (by decide +kernel) (ev_var rfl) (by omega)) fun a H5 ha0 e5 h5 => ?_
        have hpl : ∀ x ∈ TL.spl [32] 0 [] c, x.length ≤ 2000 := fun x hx => Nat.le_trans (part_len (by simp) hx) (by omega)
        generalize hW : TL.spl [32] 0 [] c = ws at h5 hpl
        have hsl := sq_of (K := K) h5
        have elen : ∀ {H'}, Ex H5 H' → Ev (tCB (rLenS K) (tCons (tVar 4) tNil)) [some (.str (ofL L)), some (.ref d), some (.str (ofL last)), some (.str (ofL c)), some (.ref a), s5] H' (.int (ws.length : Int)) := fun e => ev_is (ev_cb (ea_cons (ev_var rfl) ea_nil) (rc_lenL (ex_l e hsl))) (by rw [List.length_map])
        by_cases h3w : ws.length = 3
        · obtain ⟨n, u, v, rfl⟩ : ∃ n u v, ws = [n, u, v] := by
            match ws, h3w with
            | [n, u, v], _ => exact ⟨n, u, v, rfl⟩
          have hnl := hpl n (by simp)
          have hul := hpl u (by simp)
          have hvl := hpl v (by simp)
          refine q_when (b := !decide (V.int 3 = V.int 3) || ((!decide (GoodN n)) || !decide (last < n))) (et_or (et_test (ev_op (elen (Ex.refl _)) ev_c (rv_ne rfl))) fun _ => et_or (et_not (et_B (ev_call (ea_cons (ev_op (ev_var rfl) ev_c (rv_ixL hsl rfl)) ea_nil) (sv_of (sx_of n (fun _ _ => hnl) fun _ _ _ _ _ h => h))))) fun _ => et_test (ev_op (ev_op (ev_var rfl) ev_c (rv_ixL hsl rfl)) (ev_var rfl) rv_leStr)) (fun hb H6 e6 => ?_) (fun hb H6 e6 => ?_)
          · refine s_ret ev_c fun H7 e7 => hno (((e4.trans e5).trans e6).trans e7) (sofar_no h3 hc ?_)
            rintro ⟨e, u', v', z1, z2, z3, _⟩
            rw [hW] at z1
            simp only [List.cons.injEq, and_true] at z1
            obtain ⟨rfl, _, _⟩ := z1
            rw [decide_eq_true z2, decide_eq_true z3] at hb
            simp at hb
          have hs6 := ex_l e6 hsl
          simp only [Bool.or_eq_false_iff, Bool.not_eq_false', decide_eq_true_eq] at hb
          obtain ⟨_, hgn, hln⟩ := hb
          refine qx_asg (x_tup (vs := [.int (numV 43 u), .int (numV 45 v)]) (ea_cons (ev_call (ea_cons (ev_op (ev_var rfl) ev_c (rv_ixL hs6 rfl)) (ea_cons (ev_is (v := .str (ofL [43])) ev_c e43) ea_nil)) (sv_of (sx_of (u, 43) (fun _ _ => hul) fun _ _ _ _ _ h => h))) (ea_cons (ev_call (ea_cons (ev_op (ev_var rfl) ev_c (rv_ixL hs6 rfl)) (ea_cons (ev_is (v := .str (ofL [45])) ev_c e45) ea_nil)) (sv_of (sx_of (v, 45) (fun _ _ => hvl) fun _ _ _ _ _ h => h))) ea_nil))) ?_
          rintro _ H7 e7 ⟨q, rfl, hq0, hq⟩
          have hqt := st_of (K := K) hq
          refine q_when (b := decide (numV 43 u < 0) || (decide (numV 45 v < 0) || (decide (numV 43 u = 0) && decide (numV 45 v = 0)))) (et_or (et_test (ev_op (ev_op (ev_var rfl) ev_c (rv_ixT hqt rfl)) ev_c rv_I0)) fun _ => et_or (et_test (ev_op (ev_op (ev_var rfl) ev_c (rv_ixT hqt rfl)) ev_c rv_I0)) fun _ => et_test (ev_eqT (K := K) (x_varT rfl hqt) (x_tupT (ea_cons ev_c (ea_cons ev_c ea_nil))))) (fun hb H8 e8 => ?_) (fun hb H8 e8 => ?_)
          · refine s_ret ev_c fun H9 e9 => hno (((((e4.trans e5).trans e6).trans e7).trans e8).trans e9) (sofar_no h3 hc ?_)
            rintro ⟨e, u', v', z1, z2, z3, z4, z5, z6, z7, z8⟩
            rw [hW] at z1
            simp only [List.cons.injEq, and_true] at z1
            obtain ⟨rfl, rfl, rfl⟩ := z1
            rw [numV_pos z4, numV_pos z5, ← z6, ← z7] at hb
            simp only [Bool.or_eq_true, Bool.and_eq_true, decide_eq_true_eq] at hb
            rcases hb with hb | hb | hb
            · omega
            · omega
            · exact z8 hb
          simp only [Bool.or_eq_false_iff, decide_eq_false_iff_not, Bool.and_eq_false_iff] at hb
          obtain ⟨hb1, hb2, hb3⟩ := hb
          have n1 : NumW 43 u := by
            by_cases z : NumW 43 u
            · exact z
            · rw [numV_neg z] at hb1
              exact absurd (by decide) hb1
          have n2 : NumW 45 v := by
            by_cases z : NumW 45 v
            · exact z
            · rw [numV_neg z] at hb2
              exact absurd (by decide) hb2
          have hLw : LwE last c (n, numV 43 u, numV 45 v) := ⟨u, v, hW, hgn, hln, n1, n2, numV_pos n1, numV_pos n2, fun z => by
            rcases hb3 with hb3 | hb3
            · exact hb3 z.1
            · exact hb3 z.2⟩
          obtain ⟨hstep, hnew⟩ := sofar_step h3 hc hLw
          refine q_asg (v := .str (ofL n)) (ev_op (ev_var rfl) ev_c (rv_ixL (ex_l (e7.trans e8) hs6) rfl)) fun H9 e9 => ?_
          have e49 : Ex H4 H9 := (((e5.trans e6).trans e7).trans e8).trans e9
          obtain ⟨kvs, k1, k2, k3, k4, k5⟩ := h1.mono e49
          have hlen : p.length ≤ 501 := by
            have := h3.2.2.2.2.2
            omega
          refine s_dput (k := .inr (ofL n)) (ev_var rfl) (ev_var rfl) (ev_var rfl) k1 (by rw [k2.len]; omega) fun H10 e10 => ?_
          have hne : l ≠ d := fun z => by
            rw [z] at h2
            rw [e49 _ _ h2] at k1
            cases k1
          refine ⟨n, _, _, _, p ++ [(n, numV 43 u, numV 45 v)], rfl, Ex.mut ((e4.trans e49).trans e10) hd0, ?_, ?_, hstep⟩
          · have := PgAt.put1 (K := K) (n := n) (s := (numV 43 u, numV 45 v)) (q := q) (e10 _ _ k1) ⟨k2.mono e10, k3, k4, k5⟩ (good_nm hgn) (ex_t ((e8.trans e9).trans e10) hqt) (by omega)
            rw [putP_new' hnew] at this
            exact this
          · rw [upd_ne hne]
            exact e10 _ _ (e49 _ _ h2)
        · refine q_when (b := true) (et_or (a := true) (b := true) (et_test (ev_is (ev_op (elen (Ex.refl _)) ev_c (rv_ne rfl)) ?_)) (fun h => by cases h)) (fun _ H6 e6 => ?_) (fun hb H6 e6 => by cases hb)
          · rw [decide_eq_false (fun z => h3w (by have := V.int.inj z; omega))]
            rfl
          · refine s_ret ev_c fun H7 e7 => hno (((e4.trans e5).trans e6).trans e7) (sofar_no h3 hc ?_)
            rintro ⟨e, u', v', z1, _⟩
            rw [hW] at z1
            rw [z1] at h3w
            exact h3w rfl
    · rintro l σ' H4 ⟨last, s3, s4, s5, p, rfl, e4, h1, h2, h3⟩
      rw [List.length_map] at h3
      exact s_ret (ev_var rfl) fun H5 e5 => k _ _ (e4.trans e5) (.inl ⟨p, d, .inr ⟨hL, sofar_end h3⟩, rfl, h1.mono e5⟩)
end

--CUT law
/-! ### the law -/
theorem joinL_le {S : List Nat} {k : Nat} : ∀ (ps : List (List Nat)), (∀ x ∈ ps, x.length ≤ k) → (TL.joinL S ps).length ≤ ps.length * (k + S.length)
  | [], _ => by simp [TL.joinL]
  | [p], h => by
    have := h p (by simp)
    show p.length ≤ 1 * _
    omega
  | p :: q :: r, h => by
    have h1 := joinL_le (S := S) (k := k) (q :: r) fun x hx => h x (List.mem_cons_of_mem _ hx)
    have h2 := h p (by simp)
    show (p ++ (S ++ TL.joinL S (q :: r))).length ≤ _
    rw [List.length_append, List.length_append, List.length_cons, Nat.succ_mul]
    omega
section
variable {K : PySem.W.Frag} {σ : L2.St} {H : Hp} {ta tl te : TE} {D : Ends} {P : VP}
theorem s_appX {te ta : TE} {P : VP} {l : Addr} {xs : List V} (hl : H l = some (.lst xs)) (ha : Ev ta σ H (.ref l)) (h : EvX te σ H P) (hz : xs.length < 100000) (k : ∀ v H1, Ex H H1 → P v H1 → D.nx σ (upd H1 l (.lst (xs ++ [v])))) :
    tDrop (tBM K "list" rAppend ta (tCons te tNil)) D σ H := ha H (Ex.refl H) _ fun H1 e1 =>
  ⟨Or.inl ⟨rfl, xs, sq_of (e1 l _ hl)⟩, h H1 e1 _ fun v H2 e2 hv => ⟨l, xs, v, rfl, rfl, e2 l _ (e1 l _ hl), sz_lt hz, k v H2 (e1.trans e2) hv⟩⟩
theorem rv_notN {x : V} : RV (fun x y H Q => y = V.non ∧ Q (V.bl !decide (x = V.non)) H) x .non H (.bl !decide (x = V.non)) := fun H1 _ _ q => ⟨rfl, q H1 (Ex.refl H1)⟩
theorem rv_isN {x : V} : RV (fun x y H Q => y = V.non ∧ Q (V.bl (decide (x = V.non))) H) x .non H (.bl (decide (x = V.non))) := fun H1 _ _ q => ⟨rfl, q H1 (Ex.refl H1)⟩
theorem x_sortS {a : Addr} {rs : List (List Nat)} (h : Ev ta σ H (.ref a)) (hs : SqL K H a (rs.map fun r => V.str (ofL r))) (hl : rs.length < 64) : EvX (tCB (rSortedS K) (tCons ta tNil)) σ H (fun v H2 => ∃ (b : Addr) (rs' : List (List Nat)), v = .ref b ∧ SqL K H2 b (rs'.map fun r : List Nat => V.str (ofL r)) ∧ rs'.Perm rs) := fun H1 e Q q =>
  h H1 e _ fun H2 e2 => ⟨a, rs.map ofL, rfl, by rw [List.map_map]; exact ex_l (e.trans e2) hs, by rw [List.length_map]; exact hl, fun ys p hperm _ hp => q _ _ (e2.trans (Ex.new hp)) ⟨p, ys.map fun y => y.cps.toList, rfl, by
    rw [List.map_map]
    exact sq_of upd_same, by
    have := hperm.map fun y : Str => y.cps.toList
    rw [List.map_map] at this
    have e3 : rs.map ((fun y : Str => y.cps.toList) ∘ ofL) = rs := List.map_id' rs
    rw [e3] at this
    exact this⟩⟩
end
section
variable {P : Program} {w : World} {K : PySem.W.Frag} {mg : Str → Option Value} {base : Heap}
theorem ok_law (T : Txt K mg) : FnOk P w K mg base CX0 6 T.a_law T.d_law ["_law_script"] (spLaw K) := by
  refine T.h_law.F.ok sc_law (fun vs H Q E h => ?_) (fun cdv A outer s H vs Q E hr h => ?_)
  · obtain ⟨a, ns, rfl, _⟩ := h
    rfl
  · obtain ⟨a, ns, rfl, hs, hn63, k⟩ := h
    refine ⟨_, (pss_cons (ps_set (i := 1) sc_law.nd rfl (by first | exact Or.inl rfl | exact Or.inr rfl) (pe_lst pa_nil)) (pss_cons (ps_for PassesOwn.never rfl (pi_range1 (by rfl) T.n_range (pa_cons (pe_op op_mod (pe_call (ok_law_cell_at T) (hr.mono (by decide)) rfl T.h_law_cell_at.m T.h_law_cell_at.F.kp T.h_law_cell_at.b .nil pass0 (pa_cons (pv 0) (pa_cons pe_int pa_nil))) pe_int) pa_nil)) (pg_name (i := 2) sc_law.nd rfl (by first | exact Or.inl rfl | exact Or.inr rfl)) (pss_one (ps_expr (pe_bm PySem.F.plainAttrs_list PySem.F.slot_list_append PySem.F.type_list_append mt_append (pv 1) (pa_cons (pe_call (ok_law_row_by T) (hr.mono (by decide)) rfl T.h_law_row_by.m T.h_law_row_by.F.kp T.h_law_row_by.b .nil pass0 (pa_cons (pe_call (ok_law_cell_at T) (hr.mono (by decide)) rfl T.h_law_cell_at.m T.h_law_cell_at.F.kp T.h_law_cell_at.b .nil pass0 (pa_cons (pv 0) (pa_cons (pe_op op_add pe_int (pv 2)) pa_nil))) (pa_cons (pe_call (ok_law_cell_at T) (hr.mono (by decide)) rfl T.h_law_cell_at.m T.h_law_cell_at.F.kp T.h_law_cell_at.b .nil pass0 (pa_cons (pv 0) (pa_cons (pe_op op_add pe_int (pv 2)) pa_nil))) pa_nil))) pa_nil))))) (pss_cut (ps_if (pt_cmpR op_gt (pe_op op_mod (pe_op op_fdiv (pe_call (ok_law_cell_at T) (hr.mono (by decide)) rfl T.h_law_cell_at.m T.h_law_cell_at.F.kp T.h_law_cell_at.b .nil pass0 (pa_cons (pv 0) (pa_cons pe_int pa_nil))) pe_int) pe_int) pe_int (nomark _)) (pss_one (ps_set (i := 1) sc_law.nd rfl (by first | exact Or.inl rfl | exact Or.inr rfl) (pe_callB cr_sortedS (by rfl) T.n_sorted (by decide +kernel) (pa_cons (pv 1) pa_nil)))) pss_nil) (pss_cons (ps_set (i := 3) sc_law.nd rfl (by first | exact Or.inl rfl | exact Or.inr rfl) (pe_join pe_str (pv 1))) (pss_cut (ps_if (pt_cmpR op_eq (pv 3) pe_str (nomark _)) (pss_one (ps_set (i := 3) sc_law.nd rfl (by first | exact Or.inl rfl | exact Or.inr rfl) pe_str)) pss_nil) (pss_cut (ps_if (pt_cmpR op_gt (pe_op op_mod (pe_call (ok_law_cell_at T) (hr.mono (by decide)) rfl T.h_law_cell_at.m T.h_law_cell_at.F.kp T.h_law_cell_at.b .nil pass0 (pa_cons (pv 0) (pa_cons pe_int pa_nil))) pe_int) pe_int (nomark _)) (pss_one (ps_set (i := 3) sc_law.nd rfl (by first | exact Or.inl rfl | exact Or.inr rfl) (pe_call (ok_law_bent T) (hr.mono (by decide)) rfl T.h_law_bent.m T.h_law_bent.F.kp T.h_law_bent.b .nil pass0 (pa_cons (pv 3) (pa_cons (pe_op op_fdiv (pe_call (ok_law_cell_at T) (hr.mono (by decide)) rfl T.h_law_cell_at.m T.h_law_cell_at.F.kp T.h_law_cell_at.b .nil pass0 (pa_cons (pv 0) (pa_cons pe_int pa_nil))) pe_int) pa_nil))))) pss_nil) (pss_cons (ps_set (i := 4) sc_law.nd rfl (by first | exact Or.inl rfl | exact Or.inr rfl) (pe_call (ok_law_due T) (hr.mono (by decide)) rfl T.h_law_due.m T.h_law_due.F.kp T.h_law_due.b .nil pass0 (pa_cons (pv 3) pa_nil))) (pss_cons (ps_try_as (i := 6) rfl rfl sc_law.nd rfl rfl ⟨rfl, by decide, .inl T.x_GossipError.g⟩ takes0 (fun W pn xe tk _ => (pss_one (ps_set (i := 5) sc_law.nd rfl (by first | exact Or.inl rfl | exact Or.inr rfl) (pe_callS (ok_read T) (hr.mono (by decide)) rfl T.h_read.m T.h_read.F.kp T.h_read.b (fun σ => passAt tk σ) (pa_cons (pv 3) pa_nil))))) (fun a oe cls d pn hz hf => (pss_one (ps_ret (pe_and (pe_cmpR op_isN (pv 4) pe_non (nomark _)) (pe_one (pe_cmpR op_eq (pe_callP (fp_law_kind T) (room_suite hr (by decide)) hz hf rfl T.h_law_kind.m T.h_law_kind.F.kp T.h_law_kind.b (pa_cons (pv 6) pa_nil)) pe_str (nomark _)))))))) (pss_one (ps_ret (pe_and (pe_cmpR op_notN (pv 4) pe_non (nomark _)) (pe_one (pe_call (ok_law_same T) (hr.mono (by decide)) rfl T.h_law_same.m T.h_law_same.F.kp T.h_law_same.b .nil pass0 (pa_cons (pv 5) (pa_cons (pv 4) pa_nil))))))))))))))), ?_⟩
    have hcell : ∀ {j : Int} {H' : Hp} {σ : L2.St} {tj : TE}, Ex H H' → σ[0]? = some (some (.ref a)) → Ev tj σ H' (.int j) → 0 ≤ j → Ev (tCall (spCell K) [] E0 (tCons (tVar 0) (tCons tj tNil))) σ H' (.int (cellAt ns j)) := fun e hσ hj h0 => ev_call (ea_cons (ev_var hσ) (ea_cons hj ea_nil)) (sv_cell (ex_l e hs) h0)
    refine q_asgL (el_lst ea_nil (by decide)) fun l H1 hl0 e1 hl1 => ?_
    have g1 := Int.emod_nonneg (cellAt ns 0) (by decide : (4 : Int) ≠ 0)
    have g2 := Int.emod_lt_of_pos (cellAt ns 0) (by decide : (0 : Int) < 4)
    refine q_forR1 (n := cellAt ns 0 % 4) (ea_cons (ev_op (hcell e1 rfl ev_c (by decide)) ev_c (rv_I (by show (0 : Int) < _; decide))) ea_nil) (by omega) (fun i σ' H' => ∃ s2 rs, σ' = [some (.ref a), some (.ref l), s2, none, none, none, none] ∧ Ex H H' ∧ H' l = some (.lst (rs.map fun r : List Nat => V.str (ofL r))) ∧ rs.length = i ∧ ∀ r ∈ rs, r.length ≤ 140) (fun H2 e2 => ⟨none, [], rfl, e1.trans e2, e2 _ _ hl1, rfl, fun r hr => by cases hr⟩) ?_ ?_
    · rintro i σ' H2 hi ⟨s2, rs, rfl, e2, h2, h3, h4⟩
      refine s_appX (P := fun v _ => ∃ r : List Nat, v = .str (ofL r) ∧ r.length ≤ 140) h2 (ev_var rfl) (x_call2 (x_ev (v := .int (cellAt ns (1 + (i : Int)))) (hcell e2 rfl (ev_op ev_c (ev_var rfl) rv_I0) (by omega))) (x_ev (v := .int (cellAt ns (4 + (i : Int)))) (hcell e2 rfl (ev_op ev_c (ev_var rfl) rv_I0) (by omega))) (by
        rintro _ _ H3 e3 rfl rfl
        exact sx_of (cellAt ns (1 + (i : Int)), cellAt ns (4 + (i : Int))) (fun _ _ => trivial) fun _ _ _ _ _ h => h)) (by rw [List.length_map]; omega) ?_
      rintro v H3 e3 ⟨r, rfl, hr140⟩
      refine ⟨_, rs ++ [r], rfl, Ex.mut (e2.trans e3) hl0, ?_, ?_, fun x hx => ?_⟩
      · rw [upd_same, List.map_append]
        rfl
      · rw [List.length_append, h3]
        rfl
      · rcases List.mem_append.mp hx with hx | hx
        · exact h4 x hx
        · rw [List.mem_singleton.mp hx]
          exact hr140
    · rintro σ' H2 ⟨s2, rs, rfl, e2, h2, h3, h4⟩
      have hrs3 : rs.length ≤ 3 := by omega
      refine q_cut (M := fun σ' H' => ∃ (b : Addr) (rs' : List (List Nat)), σ' = [some (.ref a), some (.ref b), s2, none, none, none, none] ∧ Ex H H' ∧ SqL K H' b (rs'.map fun r : List Nat => V.str (ofL r)) ∧ rs'.length ≤ 3 ∧ ∀ r ∈ rs', r.length ≤ 140) ?_ ?_
      · refine s_when (b := decide (cellAt ns 0 / 4 % 4 > 0)) (et_test (ev_op (ev_op (ev_op (hcell e2 rfl ev_c (by decide)) ev_c (rv_I ⟨by decide, by decide⟩)) ev_c (rv_I (by show (0 : Int) < _; decide))) ev_c rv_I0)) (fun hb H3 e3 => ?_) (fun hb H3 e3 => ?_)
        · refine sx_asg (x_sortS (K := K) (ev_var rfl) (sq_of (e3 _ _ h2)) (by omega)) ?_
          rintro v H4 e4 ⟨b, rs', rfl, h5, h6⟩
          exact ⟨b, rs', rfl, (e2.trans e3).trans e4, h5, by rw [h6.length_eq]; exact hrs3, fun r hr => h4 r (h6.mem_iff.mp hr)⟩
        · exact ⟨l, rs, rfl, e2.trans e3, sq_of (e3 _ _ h2), hrs3, h4⟩
      rintro σ' H3 ⟨b, rs', rfl, e3, h5, h6, h7⟩
      refine qx_asg (x_joinN (K := K) (P := fun ps => ps = rs') (S := [44, 32]) (fun p => p) (ev_is ev_c (congrArg V.str (by decide +kernel))) (x_is (ev_var rfl) fun H4 e4 => ⟨rs', rfl, b, rfl, ex_l e4 h5⟩) (by decide) (fun ps hps => by
        subst hps
        exact ⟨by omega, fun p hp => by have := h7 p hp; omega⟩)) ?_
      rintro v H4 e4 ⟨ps, rfl, rfl⟩
      have hL0 : (TL.joinL [44, 32] (ps.map fun p => p)).length ≤ 426 := by
        rw [List.map_id']
        have := joinL_le (S := [44, 32]) (k := 140) ps h7
        have h8 : ps.length * (140 + 2) ≤ 3 * 142 := Nat.mul_le_mul h6 (Nat.le_refl _)
        have e142 : (140 + ([44, 32] : List Nat).length) = 140 + 2 := rfl
        rw [e142] at this
        omega
      generalize (TL.joinL [44, 32] (ps.map fun p => p)) = L0 at hL0
      refine q_cut (M := fun σ' H' => ∃ (L : List Nat), σ' = [some (.ref a), some (.ref b), s2, some (.str (ofL L)), none, none, none] ∧ Ex H H' ∧ L.length ≤ 430) ?_ ?_
      · refine s_when (b := decide (V.str (ofL L0) = V.str (ofL []))) (et_test (ev_op (ev_var rfl) (ev_is ev_c rfl) (rv_eq rfl))) (fun hb H5 e5 => ?_) (fun hb H5 e5 => ?_)
        · exact s_asg (v := .str (ofL nobL)) (ev_is ev_c (congrArg V.str (by decide +kernel))) fun H6 e6 => ⟨_, rfl, ((e3.trans e4).trans e5).trans e6, by decide⟩
        · exact ⟨_, rfl, (e3.trans e4).trans e5, by omega⟩
      rintro σ' H5 ⟨L1, rfl, e5, hL1⟩
      refine q_cut (M := fun σ' H' => ∃ (L : List Nat), σ' = [some (.ref a), some (.ref b), s2, some (.str (ofL L)), none, none, none] ∧ Ex H H' ∧ L.length ≤ 520) ?_ ?_
      · refine s_when (b := decide (cellAt ns 7 % 3 > 0)) (et_test (ev_op (ev_op (hcell e5 rfl ev_c (by decide)) ev_c (rv_I (by show (0 : Int) < _; decide))) ev_c rv_I0)) (fun hb H6 e6 => ?_) (fun hb H6 e6 => ?_)
        · refine sx_asg (P := fun v _ => ∃ r : List Nat, v = .str (ofL r) ∧ r.length ≤ 520) (x_call2 (x_ev (v := .str (ofL L1)) (ev_var rfl)) (x_ev (v := .int (cellAt ns 7 / 3)) (ev_op (hcell (e5.trans e6) rfl ev_c (by decide)) ev_c (rv_I ⟨by decide, by decide⟩))) (by
            rintro _ _ H7 e7 rfl rfl
            exact sx_of (L1, cellAt ns 7 / 3) (fun _ _ => by show L1.length ≤ 500; omega) fun _ _ _ _ _ h => h)) ?_
          rintro v H7 e7 ⟨r, rfl, hr5⟩
          exact ⟨r, rfl, (e5.trans e6).trans e7, hr5⟩
        · exact ⟨L1, rfl, e5.trans e6, by omega⟩
      rintro σ' H6 ⟨L, rfl, e6, hL⟩
      refine qx_asg (x_call1 (x_ev (v := .str (ofL L)) (ev_var rfl)) (by
        rintro _ H7 e7 rfl
        exact sx_of L (fun _ _ => by show L.length ≤ 1000; omega) fun _ _ _ _ _ h => h)) ?_
      intro v H7 e7 hv
      refine ⟨.str (ofL L), rfl, L, rfl, by omega, fun p hp => ?_, fun hno H8 e8 => ?_⟩
      · rintro u H8 e8 ⟨d2, rfl, hp2⟩
        obtain ⟨d1, rfl, hp1⟩ : ∃ d1, v = .ref d1 ∧ PgAt K H7 d1 p := by
          rcases hv with ⟨p', d1, z1, z2, z3⟩ | ⟨_, z⟩
          · rw [due_uniq hp z1]
            exact ⟨d1, z2, z3⟩
          · exact absurd hp (z p)
        have hris : RisingN (p.map (·.1)) := by
          rcases hp with ⟨_, rfl⟩ | ⟨_, z⟩
          · exact .nil
          · exact wr_ris z
        refine s_ret (v := .bl true) (ev_is (ev_andV (a := true) (b := true) (ev_is (ev_op (ev_var rfl) ev_c rv_notN) (by rfl)) fun _ => ev_call (ea_cons (ev_var rfl) (ea_cons (ev_var rfl) ea_nil)) (sv_of (sx_of ((d2, d1), p, p) (fun H9 e9 => ⟨hp2.mono e9, (hp1.mono (e8.trans e9)).rd, .refl _, hris⟩) fun _ _ _ _ _ h => h))) rfl) fun H9 e9 => k H9
      · have hvn : v = .non := by
          rcases hv with ⟨p', d1, z1, _⟩ | ⟨z, _⟩
          · exact absurd z1 (hno p')
          · exact z
        subst hvn
        refine ⟨true, T.e_NoNote, fun _ a' ha => ?_, fun z => by cases z⟩
        exact s_ret (v := .bl true) (ev_is (ev_andV (a := true) (b := true) (ev_is (ev_op (ev_var rfl) ev_c rv_isN) (by rfl)) fun _ => ev_is (ev_op (ev_kind (z := "note") (ev_var rfl) T.k_NoNote T.ki_NoNote_NoName T.ki_NoNote_NoAmount T.ki_NoNote_NoPage T.ki_NoNote_Forged T.ki_NoNote_NoNote T.kv_NoNote rfl) ev_c (rv_eq rfl)) (by simp)) rfl) fun H9 e9 => k H9
end

--CUT fin
theorem all_mk {l : PySem.W.OpenLaw} {w : World} {K : PySem.W.Frag} {h : Heap} {mg : Str → Option Value} {fa : Addr} (X : K.In h) (G : h.Ns mainGlobals mg) (hfa : mg "law" = some (.ref fa))
    {c_GossipError : Addr}
    {c_NoName : Addr}
    {c_NoAmount : Addr}
    {c_NoPage : Addr}
    {c_Forged : Addr}
    {c_NoNote : Addr}
    {f0 : Addr} {od0 an0 : Option Addr} {sl0 : Array (Option Value)} {oc0 kV0 dc0 pm0 cd0 ct0 : Value}
    {f1 : Addr} {od1 an1 : Option Addr} {sl1 : Array (Option Value)} {oc1 kV1 dc1 pm1 cd1 ct1 : Value}
    {f2 : Addr} {od2 an2 : Option Addr} {sl2 : Array (Option Value)} {oc2 kV2 dc2 pm2 cd2 ct2 : Value}
    {f3 : Addr} {od3 an3 : Option Addr} {sl3 : Array (Option Value)} {oc3 kV3 dc3 pm3 cd3 ct3 : Value}
    {f4 : Addr} {od4 an4 : Option Addr} {sl4 : Array (Option Value)} {oc4 kV4 dc4 pm4 cd4 ct4 : Value}
    {f5 : Addr} {od5 an5 : Option Addr} {sl5 : Array (Option Value)} {oc5 kV5 dc5 pm5 cd5 ct5 : Value}
    {f6 : Addr} {od6 an6 : Option Addr} {sl6 : Array (Option Value)} {oc6 kV6 dc6 pm6 cd6 ct6 : Value}
    {f7 : Addr} {od7 an7 : Option Addr} {sl7 : Array (Option Value)} {oc7 kV7 dc7 pm7 cd7 ct7 : Value}
    {f8 : Addr} {od8 an8 : Option Addr} {sl8 : Array (Option Value)} {oc8 kV8 dc8 pm8 cd8 ct8 : Value}
    {f9 : Addr} {od9 an9 : Option Addr} {sl9 : Array (Option Value)} {oc9 kV9 dc9 pm9 cd9 ct9 : Value}
    {f10 : Addr} {od10 an10 : Option Addr} {sl10 : Array (Option Value)} {oc10 kV10 dc10 pm10 cd10 ct10 : Value}
    {f11 : Addr} {od11 an11 : Option Addr} {sl11 : Array (Option Value)} {oc11 kV11 dc11 pm11 cd11 ct11 : Value}
    {f12 : Addr} {od12 an12 : Option Addr} {sl12 : Array (Option Value)} {oc12 kV12 dc12 pm12 cd12 ct12 : Value}
    {f13 : Addr} {od13 an13 : Option Addr} {sl13 : Array (Option Value)} {oc13 kV13 dc13 pm13 cd13 ct13 : Value}
    {f14 : Addr} {od14 an14 : Option Addr} {sl14 : Array (Option Value)} {oc14 kV14 dc14 pm14 cd14 ct14 : Value}
    {f15 : Addr} {od15 an15 : Option Addr} {sl15 : Array (Option Value)} {oc15 kV15 dc15 pm15 cd15 ct15 : Value}
    {f16 : Addr} {od16 an16 : Option Addr} {sl16 : Array (Option Value)} {oc16 kV16 dc16 pm16 cd16 ct16 : Value}
    {f17 : Addr} {od17 an17 : Option Addr} {sl17 : Array (Option Value)} {oc17 kV17 dc17 pm17 cd17 ct17 : Value}
    {f18 : Addr} {od18 an18 : Option Addr} {sl18 : Array (Option Value)} {oc18 kV18 dc18 pm18 cd18 ct18 : Value}
    {f19 : Addr} {od19 an19 : Option Addr} {sl19 : Array (Option Value)} {oc19 kV19 dc19 pm19 cd19 ct19 : Value}
    {f20 : Addr} {od20 an20 : Option Addr} {sl20 : Array (Option Value)} {oc20 kV20 dc20 pm20 cd20 ct20 : Value}
    {f21 : Addr} {od21 an21 : Option Addr} {sl21 : Array (Option Value)} {oc21 kV21 dc21 pm21 cd21 ct21 : Value}
    {f22 : Addr} {od22 an22 : Option Addr} {sl22 : Array (Option Value)} {oc22 kV22 dc22 pm22 cd22 ct22 : Value}
    {tk_LONGEST_NAME : Tok}
    {p_NOTHING : Addr} {o_NOTHING : Obj}
    {tk_BEYOND : Tok}
    {tk_MOST_NAMES : Tok}
    {tk_NOBODY : Tok}
    {tk_MOST_FIGURES : Tok}
    (xa_GossipError : PySem.W.nsIn K mainGlobals "GossipError" = some (some (.ref c_GossipError))) (xq_GossipError : PySem.W.excIn K c_GossipError [.type "ValueError", .type "Exception", .type "BaseException", .type "object"] "ValueError.__new__" = true) (xk_GossipError : PySem.W.keepIn K (.ref c_GossipError) = true) (xb_GossipError : PySem.W.subIn K (.ref c_GossipError) (.type "BaseException") = some true) (xt_GossipError : PySem.W.typeIn K (.ref c_GossipError) = some (.type "type"))
    (xa_NoName : PySem.W.nsIn K mainGlobals "NoName" = some (some (.ref c_NoName))) (xq_NoName : PySem.W.excIn K c_NoName [.type "ValueError", .type "Exception", .type "BaseException", .type "object"] "ValueError.__new__" = true) (xk_NoName : PySem.W.keepIn K (.ref c_NoName) = true) (xb_NoName : PySem.W.subIn K (.ref c_NoName) (.type "BaseException") = some true) (xt_NoName : PySem.W.typeIn K (.ref c_NoName) = some (.type "type"))
    (xa_NoAmount : PySem.W.nsIn K mainGlobals "NoAmount" = some (some (.ref c_NoAmount))) (xq_NoAmount : PySem.W.excIn K c_NoAmount [.type "ValueError", .type "Exception", .type "BaseException", .type "object"] "ValueError.__new__" = true) (xk_NoAmount : PySem.W.keepIn K (.ref c_NoAmount) = true) (xb_NoAmount : PySem.W.subIn K (.ref c_NoAmount) (.type "BaseException") = some true) (xt_NoAmount : PySem.W.typeIn K (.ref c_NoAmount) = some (.type "type"))
    (xa_NoPage : PySem.W.nsIn K mainGlobals "NoPage" = some (some (.ref c_NoPage))) (xq_NoPage : PySem.W.excIn K c_NoPage [.type "ValueError", .type "Exception", .type "BaseException", .type "object"] "ValueError.__new__" = true) (xk_NoPage : PySem.W.keepIn K (.ref c_NoPage) = true) (xb_NoPage : PySem.W.subIn K (.ref c_NoPage) (.type "BaseException") = some true) (xt_NoPage : PySem.W.typeIn K (.ref c_NoPage) = some (.type "type"))
    (xa_Forged : PySem.W.nsIn K mainGlobals "Forged" = some (some (.ref c_Forged))) (xq_Forged : PySem.W.excIn K c_Forged [.type "ValueError", .type "Exception", .type "BaseException", .type "object"] "ValueError.__new__" = true) (xk_Forged : PySem.W.keepIn K (.ref c_Forged) = true) (xb_Forged : PySem.W.subIn K (.ref c_Forged) (.type "BaseException") = some true) (xt_Forged : PySem.W.typeIn K (.ref c_Forged) = some (.type "type"))
    (xa_NoNote : PySem.W.nsIn K mainGlobals "NoNote" = some (some (.ref c_NoNote))) (xq_NoNote : PySem.W.excIn K c_NoNote [.type "ValueError", .type "Exception", .type "BaseException", .type "object"] "ValueError.__new__" = true) (xk_NoNote : PySem.W.keepIn K (.ref c_NoNote) = true) (xb_NoNote : PySem.W.subIn K (.ref c_NoNote) (.type "BaseException") = some true) (xt_NoNote : PySem.W.typeIn K (.ref c_NoNote) = some (.type "type"))
    (hdR : PySem.W.hasDictIn K c_GossipError = true)
    (sG_NoNote : PySem.W.subIn K (.ref c_NoNote) (.ref c_GossipError) = some true) (yg_NoNote : PySem.W.findIn K (.ref c_NoNote) "__getattribute__" = some (some (.builtin "BaseException.__getattribute__"))) (yk_NoNote : PySem.W.findIn K (.ref c_NoNote) "__getattr__" = some none) (yd_NoNote : PySem.W.hasDictIn K c_NoNote = true) (ya_NoNote : PySem.W.findIn K (.ref c_NoNote) "__class__" = some (some (.builtin "object.__class__"))) (yn_NoNote : PySem.W.specialIn K (.builtin "object.__class__") "__get__" = some (some (.builtin "getset_descriptor.__get__"))) (yt_NoNote : PySem.W.takesIn K (.builtin "object.__class__") = some true) (ym_NoNote : PySem.W.mroIn K c_NoNote (.type "object") = some true) (kv_NoNote : PySem.W.kitOne K (.ref c_NoNote) (.type "ValueError") = some true)
    (ki_NoNote_NoName : PySem.W.kitOne K (.ref c_NoNote) (.ref c_NoName) = some false)
    (ki_NoNote_NoAmount : PySem.W.kitOne K (.ref c_NoNote) (.ref c_NoAmount) = some false)
    (ki_NoNote_NoPage : PySem.W.kitOne K (.ref c_NoNote) (.ref c_NoPage) = some false)
    (ki_NoNote_Forged : PySem.W.kitOne K (.ref c_NoNote) (.ref c_Forged) = some false)
    (ki_NoNote_NoNote : PySem.W.kitOne K (.ref c_NoNote) (.ref c_NoNote) = some true)
    (a0 : PySem.W.nsIn K mainGlobals "is_name" = some (some (.ref f0))) (l0 : K.lookup f0 = some ⟨oc0, od0, .func (PySem.W.fnOf "is_name" "is_name" (defArgs s_is_name) (defBody s_is_name) (defScope s_is_name) .none kV0 dc0 pm0 an0 cd0 ct0), sl0⟩) (c0 : PySem.W.codeIn K cd0 "is_name" = true) (k0 : PySem.W.keepIn K (.ref f0) = true)
    (a1 : PySem.W.nsIn K mainGlobals "is_whole" = some (some (.ref f1))) (l1 : K.lookup f1 = some ⟨oc1, od1, .func (PySem.W.fnOf "is_whole" "is_whole" (defArgs s_is_whole) (defBody s_is_whole) (defScope s_is_whole) .none kV1 dc1 pm1 an1 cd1 ct1), sl1⟩) (c1 : PySem.W.codeIn K cd1 "is_whole" = true) (k1 : PySem.W.keepIn K (.ref f1) = true)
    (a2 : PySem.W.nsIn K mainGlobals "is_share" = some (some (.ref f2))) (l2 : K.lookup f2 = some ⟨oc2, od2, .func (PySem.W.fnOf "is_share" "is_share" (defArgs s_is_share) (defBody s_is_share) (defScope s_is_share) .none kV2 dc2 pm2 an2 cd2 ct2), sl2⟩) (c2 : PySem.W.codeIn K cd2 "is_share" = true) (k2 : PySem.W.keepIn K (.ref f2) = true)
    (a3 : PySem.W.nsIn K mainGlobals "is_page" = some (some (.ref f3))) (l3 : K.lookup f3 = some ⟨oc3, od3, .func (PySem.W.fnOf "is_page" "is_page" (defArgs s_is_page) (defBody s_is_page) (defScope s_is_page) .none kV3 dc3 pm3 an3 cd3 ct3), sl3⟩) (c3 : PySem.W.codeIn K cd3 "is_page" = true) (k3 : PySem.W.keepIn K (.ref f3) = true)
    (a4 : PySem.W.nsIn K mainGlobals "_is_entry" = some (some (.ref f4))) (l4 : K.lookup f4 = some ⟨oc4, od4, .func (PySem.W.fnOf "_is_entry" "_is_entry" (defArgs s_is_entry) (defBody s_is_entry) (defScope s_is_entry) .none kV4 dc4 pm4 an4 cd4 ct4), sl4⟩) (c4 : PySem.W.codeIn K cd4 "_is_entry" = true) (k4 : PySem.W.keepIn K (.ref f4) = true)
    (a5 : PySem.W.nsIn K mainGlobals "written" = some (some (.ref f5))) (l5 : K.lookup f5 = some ⟨oc5, od5, .func (PySem.W.fnOf "written" "written" (defArgs s_written) (defBody s_written) (defScope s_written) .none kV5 dc5 pm5 an5 cd5 ct5), sl5⟩) (c5 : PySem.W.codeIn K cd5 "written" = true) (k5 : PySem.W.keepIn K (.ref f5) = true)
    (a6 : PySem.W.nsIn K mainGlobals "_entry" = some (some (.ref f6))) (l6 : K.lookup f6 = some ⟨oc6, od6, .func (PySem.W.fnOf "_entry" "_entry" (defArgs s_entry) (defBody s_entry) (defScope s_entry) .none kV6 dc6 pm6 an6 cd6 ct6), sl6⟩) (c6 : PySem.W.codeIn K cd6 "_entry" = true) (k6 : PySem.W.keepIn K (.ref f6) = true)
    (a7 : PySem.W.nsIn K mainGlobals "read" = some (some (.ref f7))) (l7 : K.lookup f7 = some ⟨oc7, od7, .func (PySem.W.fnOf "read" "read" (defArgs s_read) (defBody s_read) (defScope s_read) .none kV7 dc7 pm7 an7 cd7 ct7), sl7⟩) (c7 : PySem.W.codeIn K cd7 "read" = true) (k7 : PySem.W.keepIn K (.ref f7) = true)
    (a8 : PySem.W.nsIn K mainGlobals "_read_entry" = some (some (.ref f8))) (l8 : K.lookup f8 = some ⟨oc8, od8, .func (PySem.W.fnOf "_read_entry" "_read_entry" (defArgs s_read_entry) (defBody s_read_entry) (defScope s_read_entry) .none kV8 dc8 pm8 an8 cd8 ct8), sl8⟩) (c8 : PySem.W.codeIn K cd8 "_read_entry" = true) (k8 : PySem.W.keepIn K (.ref f8) = true)
    (a9 : PySem.W.nsIn K mainGlobals "_read_number" = some (some (.ref f9))) (l9 : K.lookup f9 = some ⟨oc9, od9, .func (PySem.W.fnOf "_read_number" "_read_number" (defArgs s_read_number) (defBody s_read_number) (defScope s_read_number) .none kV9 dc9 pm9 an9 cd9 ct9), sl9⟩) (c9 : PySem.W.codeIn K cd9 "_read_number" = true) (k9 : PySem.W.keepIn K (.ref f9) = true)
    (a10 : PySem.W.nsIn K mainGlobals "_law_cell_at" = some (some (.ref f10))) (l10 : K.lookup f10 = some ⟨oc10, od10, .func (PySem.W.fnOf "_law_cell_at" "_law_cell_at" (defArgs s_law_cell_at) (defBody s_law_cell_at) (defScope s_law_cell_at) .none kV10 dc10 pm10 an10 cd10 ct10), sl10⟩) (c10 : PySem.W.codeIn K cd10 "_law_cell_at" = true) (k10 : PySem.W.keepIn K (.ref f10) = true)
    (a11 : PySem.W.nsIn K mainGlobals "_law_whole" = some (some (.ref f11))) (l11 : K.lookup f11 = some ⟨oc11, od11, .func (PySem.W.fnOf "_law_whole" "_law_whole" (defArgs s_law_whole) (defBody s_law_whole) (defScope s_law_whole) .none kV11 dc11 pm11 an11 cd11 ct11), sl11⟩) (c11 : PySem.W.codeIn K cd11 "_law_whole" = true) (k11 : PySem.W.keepIn K (.ref f11) = true)
    (a12 : PySem.W.nsIn K mainGlobals "_law_share" = some (some (.ref f12))) (l12 : K.lookup f12 = some ⟨oc12, od12, .func (PySem.W.fnOf "_law_share" "_law_share" (defArgs s_law_share) (defBody s_law_share) (defScope s_law_share) .none kV12 dc12 pm12 an12 cd12 ct12), sl12⟩) (c12 : PySem.W.codeIn K cd12 "_law_share" = true) (k12 : PySem.W.keepIn K (.ref f12) = true)
    (a13 : PySem.W.nsIn K mainGlobals "_law_name_by" = some (some (.ref f13))) (l13 : K.lookup f13 = some ⟨oc13, od13, .func (PySem.W.fnOf "_law_name_by" "_law_name_by" (defArgs s_law_name_by) (defBody s_law_name_by) (defScope s_law_name_by) .none kV13 dc13 pm13 an13 cd13 ct13), sl13⟩) (c13 : PySem.W.codeIn K cd13 "_law_name_by" = true) (k13 : PySem.W.keepIn K (.ref f13) = true)
    (a14 : PySem.W.nsIn K mainGlobals "_law_same" = some (some (.ref f14))) (l14 : K.lookup f14 = some ⟨oc14, od14, .func (PySem.W.fnOf "_law_same" "_law_same" (defArgs s_law_same) (defBody s_law_same) (defScope s_law_same) .none kV14 dc14 pm14 an14 cd14 ct14), sl14⟩) (c14 : PySem.W.codeIn K cd14 "_law_same" = true) (k14 : PySem.W.keepIn K (.ref f14) = true)
    (a15 : PySem.W.nsIn K mainGlobals "_law_kind" = some (some (.ref f15))) (l15 : K.lookup f15 = some ⟨oc15, od15, .func (PySem.W.fnOf "_law_kind" "_law_kind" (defArgs s_law_kind) (defBody s_law_kind) (defScope s_law_kind) .none kV15 dc15 pm15 an15 cd15 ct15), sl15⟩) (c15 : PySem.W.codeIn K cd15 "_law_kind" = true) (k15 : PySem.W.keepIn K (.ref f15) = true)
    (a16 : PySem.W.nsIn K mainGlobals "_law_sign_by" = some (some (.ref f16))) (l16 : K.lookup f16 = some ⟨oc16, od16, .func (PySem.W.fnOf "_law_sign_by" "_law_sign_by" (defArgs s_law_sign_by) (defBody s_law_sign_by) (defScope s_law_sign_by) .none kV16 dc16 pm16 an16 cd16 ct16), sl16⟩) (c16 : PySem.W.codeIn K cd16 "_law_sign_by" = true) (k16 : PySem.W.keepIn K (.ref f16) = true)
    (a17 : PySem.W.nsIn K mainGlobals "_law_row_by" = some (some (.ref f17))) (l17 : K.lookup f17 = some ⟨oc17, od17, .func (PySem.W.fnOf "_law_row_by" "_law_row_by" (defArgs s_law_row_by) (defBody s_law_row_by) (defScope s_law_row_by) .none kV17 dc17 pm17 an17 cd17 ct17), sl17⟩) (c17 : PySem.W.codeIn K cd17 "_law_row_by" = true) (k17 : PySem.W.keepIn K (.ref f17) = true)
    (a18 : PySem.W.nsIn K mainGlobals "_law_bent" = some (some (.ref f18))) (l18 : K.lookup f18 = some ⟨oc18, od18, .func (PySem.W.fnOf "_law_bent" "_law_bent" (defArgs s_law_bent) (defBody s_law_bent) (defScope s_law_bent) .none kV18 dc18 pm18 an18 cd18 ct18), sl18⟩) (c18 : PySem.W.codeIn K cd18 "_law_bent" = true) (k18 : PySem.W.keepIn K (.ref f18) = true)
    (a19 : PySem.W.nsIn K mainGlobals "_law_number_of" = some (some (.ref f19))) (l19 : K.lookup f19 = some ⟨oc19, od19, .func (PySem.W.fnOf "_law_number_of" "_law_number_of" (defArgs s_law_number_of) (defBody s_law_number_of) (defScope s_law_number_of) .none kV19 dc19 pm19 an19 cd19 ct19), sl19⟩) (c19 : PySem.W.codeIn K cd19 "_law_number_of" = true) (k19 : PySem.W.keepIn K (.ref f19) = true)
    (a20 : PySem.W.nsIn K mainGlobals "_law_named" = some (some (.ref f20))) (l20 : K.lookup f20 = some ⟨oc20, od20, .func (PySem.W.fnOf "_law_named" "_law_named" (defArgs s_law_named) (defBody s_law_named) (defScope s_law_named) .none kV20 dc20 pm20 an20 cd20 ct20), sl20⟩) (c20 : PySem.W.codeIn K cd20 "_law_named" = true) (k20 : PySem.W.keepIn K (.ref f20) = true)
    (a21 : PySem.W.nsIn K mainGlobals "_law_due" = some (some (.ref f21))) (l21 : K.lookup f21 = some ⟨oc21, od21, .func (PySem.W.fnOf "_law_due" "_law_due" (defArgs s_law_due) (defBody s_law_due) (defScope s_law_due) .none kV21 dc21 pm21 an21 cd21 ct21), sl21⟩) (c21 : PySem.W.codeIn K cd21 "_law_due" = true) (k21 : PySem.W.keepIn K (.ref f21) = true)
    (a22 : PySem.W.nsIn K mainGlobals "law" = some (some (.ref f22))) (l22 : K.lookup f22 = some ⟨oc22, od22, .func (PySem.W.fnOf "law" "law" (defArgs s_law) (defBody s_law) (defScope s_law) .none kV22 dc22 pm22 an22 cd22 ct22), sl22⟩) (c22 : PySem.W.codeIn K cd22 "law" = true) (k22 : PySem.W.keepIn K (.ref f22) = true)
    (z_ValueError : PySem.W.nsIn K mainGlobals "ValueError" = some none)
    (z_all : PySem.W.nsIn K mainGlobals "all" = some none)
    (z_bool : PySem.W.nsIn K mainGlobals "bool" = some none)
    (z_dict : PySem.W.nsIn K mainGlobals "dict" = some none)
    (z_int : PySem.W.nsIn K mainGlobals "int" = some none)
    (z_isinstance : PySem.W.nsIn K mainGlobals "isinstance" = some none)
    (z_len : PySem.W.nsIn K mainGlobals "len" = some none)
    (z_list : PySem.W.nsIn K mainGlobals "list" = some none)
    (z_range : PySem.W.nsIn K mainGlobals "range" = some none)
    (z_sorted : PySem.W.nsIn K mainGlobals "sorted" = some none)
    (z_str : PySem.W.nsIn K mainGlobals "str" = some none)
    (z_tuple : PySem.W.nsIn K mainGlobals "tuple" = some none)
    (g_LONGEST_NAME : PySem.W.nsIn K mainGlobals "LONGEST_NAME" = some (some (.int (8) tk_LONGEST_NAME)))
    (g_NOTHING : PySem.W.nsIn K mainGlobals "NOTHING" = some (some (.ref p_NOTHING))) (q_NOTHING : K.lookup p_NOTHING = some o_NOTHING) (r_NOTHING : tupInts o_NOTHING [0, 0] = true)
    (g_BEYOND : PySem.W.nsIn K mainGlobals "BEYOND" = some (some (.int (1000000000000000000000000000000000000000000000000000000000000) tk_BEYOND)))
    (g_MOST_NAMES : PySem.W.nsIn K mainGlobals "MOST_NAMES" = some (some (.int (200) tk_MOST_NAMES)))
    (g_NOBODY : PySem.W.nsIn K mainGlobals "NOBODY" = some (some (.str "nobody" tk_NOBODY)))
    (g_MOST_FIGURES : PySem.W.nsIn K mainGlobals "MOST_FIGURES" = some (some (.int (60) tk_MOST_FIGURES))) :
    ∃ fd : FuncData, (∀ (s : Shared) (v : Value), BindsTo s fd ⟨[v], []⟩ [("_law_script", v)]) ∧ ∀ base : Heap, K.In base → base.Ns mainGlobals mg → FnOk l.prog w K mg base CX0 6 fa fd ["_law_script"] (spLaw K) := by
  have e := hfa.symm.trans (PySem.W.mg_of X G a22)
  cases e
  have F0 := fun_mk (st := s_is_name) l0 c0 k0
  have b0 := F0.binds (ps := ["thing"]) fun _ _ _ _ _ _ us hl => match us, hl with | [_], _ => rfl
  have F1 := fun_mk (st := s_is_whole) l1 c1 k1
  have b1 := F1.binds (ps := ["thing"]) fun _ _ _ _ _ _ us hl => match us, hl with | [_], _ => rfl
  have F2 := fun_mk (st := s_is_share) l2 c2 k2
  have b2 := F2.binds (ps := ["thing"]) fun _ _ _ _ _ _ us hl => match us, hl with | [_], _ => rfl
  have F3 := fun_mk (st := s_is_page) l3 c3 k3
  have b3 := F3.binds (ps := ["thing"]) fun _ _ _ _ _ _ us hl => match us, hl with | [_], _ => rfl
  have F4 := fun_mk (st := s_is_entry) l4 c4 k4
  have b4 := F4.binds (ps := ["name", "share"]) fun _ _ _ _ _ _ us hl => match us, hl with | [_, _], _ => rfl
  have F5 := fun_mk (st := s_written) l5 c5 k5
  have b5 := F5.binds (ps := ["page"]) fun _ _ _ _ _ _ us hl => match us, hl with | [_], _ => rfl
  have F6 := fun_mk (st := s_entry) l6 c6 k6
  have b6 := F6.binds (ps := ["name", "share"]) fun _ _ _ _ _ _ us hl => match us, hl with | [_, _], _ => rfl
  have F7 := fun_mk (st := s_read) l7 c7 k7
  have b7 := F7.binds (ps := ["text"]) fun _ _ _ _ _ _ us hl => match us, hl with | [_], _ => rfl
  have F8 := fun_mk (st := s_read_entry) l8 c8 k8
  have b8 := F8.binds (ps := ["entry"]) fun _ _ _ _ _ _ us hl => match us, hl with | [_], _ => rfl
  have F9 := fun_mk (st := s_read_number) l9 c9 k9
  have b9 := F9.binds (ps := ["sign", "part"]) fun _ _ _ _ _ _ us hl => match us, hl with | [_, _], _ => rfl
  have F10 := fun_mk (st := s_law_cell_at) l10 c10 k10
  have b10 := F10.binds (ps := ["_law_script", "_law_k"]) fun _ _ _ _ _ _ us hl => match us, hl with | [_, _], _ => rfl
  have F11 := fun_mk (st := s_law_whole) l11 c11 k11
  have b11 := F11.binds (ps := ["_law_found"]) fun _ _ _ _ _ _ us hl => match us, hl with | [_], _ => rfl
  have F12 := fun_mk (st := s_law_share) l12 c12 k12
  have b12 := F12.binds (ps := ["_law_found", "_law_due_here"]) fun _ _ _ _ _ _ us hl => match us, hl with | [_, _], _ => rfl
  have F13 := fun_mk (st := s_law_name_by) l13 c13 k13
  have b13 := F13.binds (ps := ["_law_cell"]) fun _ _ _ _ _ _ us hl => match us, hl with | [_], _ => rfl
  have F14 := fun_mk (st := s_law_same) l14 c14 k14
  have b14 := F14.binds (ps := ["_law_found", "_law_due_here"]) fun _ _ _ _ _ _ us hl => match us, hl with | [_, _], _ => rfl
  have F15 := fun_mk (st := s_law_kind) l15 c15 k15
  have b15 := F15.binds (ps := ["_law_error"]) fun _ _ _ _ _ _ us hl => match us, hl with | [_], _ => rfl
  have F16 := fun_mk (st := s_law_sign_by) l16 c16 k16
  have b16 := F16.binds (ps := ["_law_cell"]) fun _ _ _ _ _ _ us hl => match us, hl with | [_], _ => rfl
  have F17 := fun_mk (st := s_law_row_by) l17 c17 k17
  have b17 := F17.binds (ps := ["_law_name", "_law_numbers"]) fun _ _ _ _ _ _ us hl => match us, hl with | [_, _], _ => rfl
  have F18 := fun_mk (st := s_law_bent) l18 c18 k18
  have b18 := F18.binds (ps := ["_law_text", "_law_cell"]) fun _ _ _ _ _ _ us hl => match us, hl with | [_, _], _ => rfl
  have F19 := fun_mk (st := s_law_number_of) l19 c19 k19
  have b19 := F19.binds (ps := ["_law_word", "_law_sign"]) fun _ _ _ _ _ _ us hl => match us, hl with | [_, _], _ => rfl
  have F20 := fun_mk (st := s_law_named) l20 c20 k20
  have b20 := F20.binds (ps := ["_law_word"]) fun _ _ _ _ _ _ us hl => match us, hl with | [_], _ => rfl
  have F21 := fun_mk (st := s_law_due) l21 c21 k21
  have b21 := F21.binds (ps := ["_law_text"]) fun _ _ _ _ _ _ us hl => match us, hl with | [_], _ => rfl
  have F22 := fun_mk (st := s_law) l22 c22 k22
  have b22 := F22.binds (ps := ["_law_script"]) fun _ _ _ _ _ _ us hl => match us, hl with | [_], _ => rfl
  let T : Txt K mg := { c_GossipError := c_GossipError, x_GossipError := ⟨PySem.W.mg_of X G xa_GossipError, xq_GossipError, xk_GossipError, xb_GossipError, xt_GossipError⟩, c_NoName := c_NoName, x_NoName := ⟨PySem.W.mg_of X G xa_NoName, xq_NoName, xk_NoName, xb_NoName, xt_NoName⟩, c_NoAmount := c_NoAmount, x_NoAmount := ⟨PySem.W.mg_of X G xa_NoAmount, xq_NoAmount, xk_NoAmount, xb_NoAmount, xt_NoAmount⟩, c_NoPage := c_NoPage, x_NoPage := ⟨PySem.W.mg_of X G xa_NoPage, xq_NoPage, xk_NoPage, xb_NoPage, xt_NoPage⟩, c_Forged := c_Forged, x_Forged := ⟨PySem.W.mg_of X G xa_Forged, xq_Forged, xk_Forged, xb_Forged, xt_Forged⟩, c_NoNote := c_NoNote, x_NoNote := ⟨PySem.W.mg_of X G xa_NoNote, xq_NoNote, xk_NoNote, xb_NoNote, xt_NoNote⟩, e_NoNote := PySem.W.exm_ref xb_GossipError hdR xt_GossipError sG_NoNote, k_NoNote := ⟨yg_NoNote, yk_NoNote, xb_NoNote, yd_NoNote, ya_NoNote, yn_NoNote, yt_NoNote, ym_NoNote⟩, kv_NoNote := kv_NoNote, ki_NoNote_NoName := ki_NoNote_NoName, ki_NoNote_NoAmount := ki_NoNote_NoAmount, ki_NoNote_NoPage := ki_NoNote_NoPage, ki_NoNote_Forged := ki_NoNote_Forged, ki_NoNote_NoNote := ki_NoNote_NoNote, a_is_name := f0, d_is_name := _, h_is_name := ⟨PySem.W.mg_of X G a0, F0, b0⟩, a_is_whole := f1, d_is_whole := _, h_is_whole := ⟨PySem.W.mg_of X G a1, F1, b1⟩, a_is_share := f2, d_is_share := _, h_is_share := ⟨PySem.W.mg_of X G a2, F2, b2⟩, a_is_page := f3, d_is_page := _, h_is_page := ⟨PySem.W.mg_of X G a3, F3, b3⟩, a_is_entry := f4, d_is_entry := _, h_is_entry := ⟨PySem.W.mg_of X G a4, F4, b4⟩, a_written := f5, d_written := _, h_written := ⟨PySem.W.mg_of X G a5, F5, b5⟩, a_entry := f6, d_entry := _, h_entry := ⟨PySem.W.mg_of X G a6, F6, b6⟩, a_read := f7, d_read := _, h_read := ⟨PySem.W.mg_of X G a7, F7, b7⟩, a_read_entry := f8, d_read_entry := _, h_read_entry := ⟨PySem.W.mg_of X G a8, F8, b8⟩, a_read_number := f9, d_read_number := _, h_read_number := ⟨PySem.W.mg_of X G a9, F9, b9⟩, a_law_cell_at := f10, d_law_cell_at := _, h_law_cell_at := ⟨PySem.W.mg_of X G a10, F10, b10⟩, a_law_whole := f11, d_law_whole := _, h_law_whole := ⟨PySem.W.mg_of X G a11, F11, b11⟩, a_law_share := f12, d_law_share := _, h_law_share := ⟨PySem.W.mg_of X G a12, F12, b12⟩, a_law_name_by := f13, d_law_name_by := _, h_law_name_by := ⟨PySem.W.mg_of X G a13, F13, b13⟩, a_law_same := f14, d_law_same := _, h_law_same := ⟨PySem.W.mg_of X G a14, F14, b14⟩, a_law_kind := f15, d_law_kind := _, h_law_kind := ⟨PySem.W.mg_of X G a15, F15, b15⟩, a_law_sign_by := f16, d_law_sign_by := _, h_law_sign_by := ⟨PySem.W.mg_of X G a16, F16, b16⟩, a_law_row_by := f17, d_law_row_by := _, h_law_row_by := ⟨PySem.W.mg_of X G a17, F17, b17⟩, a_law_bent := f18, d_law_bent := _, h_law_bent := ⟨PySem.W.mg_of X G a18, F18, b18⟩, a_law_number_of := f19, d_law_number_of := _, h_law_number_of := ⟨PySem.W.mg_of X G a19, F19, b19⟩, a_law_named := f20, d_law_named := _, h_law_named := ⟨PySem.W.mg_of X G a20, F20, b20⟩, a_law_due := f21, d_law_due := _, h_law_due := ⟨PySem.W.mg_of X G a21, F21, b21⟩, a_law := fa, d_law := _, h_law := ⟨PySem.W.mg_of X G a22, F22, b22⟩, n_ValueError := PySem.W.mg_none_of X G z_ValueError, n_all := PySem.W.mg_none_of X G z_all, n_bool := PySem.W.mg_none_of X G z_bool, n_dict := PySem.W.mg_none_of X G z_dict, n_int := PySem.W.mg_none_of X G z_int, n_isinstance := PySem.W.mg_none_of X G z_isinstance, n_len := PySem.W.mg_none_of X G z_len, n_list := PySem.W.mg_none_of X G z_list, n_range := PySem.W.mg_none_of X G z_range, n_sorted := PySem.W.mg_none_of X G z_sorted, n_str := PySem.W.mg_none_of X G z_str, n_tuple := PySem.W.mg_none_of X G z_tuple, v_LONGEST_NAME := _, g_LONGEST_NAME := ⟨PySem.W.mg_of X G g_LONGEST_NAME, ⟨_, rfl⟩⟩, p_NOTHING := p_NOTHING, g_NOTHING := ⟨PySem.W.mg_of X G g_NOTHING, rfl⟩, t_NOTHING := fun H => sqT_written q_NOTHING r_NOTHING, v_BEYOND := _, g_BEYOND := ⟨PySem.W.mg_of X G g_BEYOND, ⟨_, rfl⟩⟩, v_MOST_NAMES := _, g_MOST_NAMES := ⟨PySem.W.mg_of X G g_MOST_NAMES, ⟨_, rfl⟩⟩, v_NOBODY := _, g_NOBODY := ⟨PySem.W.mg_of X G g_NOBODY, ⟨_, rfl⟩⟩, v_MOST_FIGURES := _, g_MOST_FIGURES := ⟨PySem.W.mg_of X G g_MOST_FIGURES, ⟨_, rfl⟩⟩ }
  exact ⟨_, fun s v => .of_eq rfl, fun base _ _ => ok_law T⟩
theorem walk {l : PySem.W.OpenLaw} {q : Program} {loose : List Str} {XP : (Str → Option Value) → Heap → Prop} {YP : World → Heap → Prop} {d : DefRec} {K : Params → PySem.W.Frag} (hn : l.most = some 63) (hdf : d.params.defaults = [])
    (hY : ∀ (w : World) (h : Heap), YP w h → (K w.params).In h)
    (F : ∀ (w : World) (mg : Str → Option Value) (fa : Addr) (h : Heap), (K w.params).In h → h.Ns mainGlobals mg → mg d.name = some (.ref fa) →
      ∃ fd : FuncData, (∀ (s : Shared) (u : Value), BindsTo s fd ⟨[u], []⟩ [("_law_script", u)]) ∧ ∀ base : Heap, (K w.params).In base → base.Ns mainGlobals mg → FnOk l.prog w (K w.params) mg base CX0 6 fa fd ["_law_script"] (spLaw (K w.params))) :
    PySem.W.WalkO q loose XP YP l.row.toRowW d [] (fun f vs => PySem.call f vs) :=
  L2.walk_of (n := 63) (k := 6) (x := "_law_script") (CX := fun _ => CX0) (sp := fun w => spLaw (K w.params)) hn (by decide) hdf ⟨rfl, by decide, by decide⟩ hY F (fun _ _ a ns hl _ hS => ⟨a, ns, rfl, hS, hl, fun _ => rfl⟩) fun _ _ _ _ _ z => z
end GC
open PySem PySem.W PyProof.Rows
set_option maxRecDepth 100000 in
set_option maxHeartbeats 0 in
theorem PySem.Challenge.cw_gossipcount_k10_read_holds : PySem.Challenge.rw_gossipcount_k10_read.Holds := by
  w_on; o_law; k_head; (case hw => w_witness2)
  k_fill
  refine GC.walk (l := PySem.Challenge.rw_gossipcount_k10_read) rfl rfl (fun w h Y => PySem.W.kIn_of Y) ?F
  case F =>
    intro w mg fa h KX G hmg
    refine' GC.all_mk KX G hmg ?xa_GossipError ?xq_GossipError ?xk_GossipError ?xb_GossipError ?xt_GossipError ?xa_NoName ?xq_NoName ?xk_NoName ?xb_NoName ?xt_NoName ?xa_NoAmount ?xq_NoAmount ?xk_NoAmount ?xb_NoAmount ?xt_NoAmount ?xa_NoPage ?xq_NoPage ?xk_NoPage ?xb_NoPage ?xt_NoPage ?xa_Forged ?xq_Forged ?xk_Forged ?xb_Forged ?xt_Forged ?xa_NoNote ?xq_NoNote ?xk_NoNote ?xb_NoNote ?xt_NoNote ?hdR ?sG_NoNote ?yg_NoNote ?yk_NoNote ?yd_NoNote ?ya_NoNote ?yn_NoNote ?yt_NoNote ?ym_NoNote ?kv_NoNote ?ki_NoNote_NoName ?ki_NoNote_NoAmount ?ki_NoNote_NoPage ?ki_NoNote_Forged ?ki_NoNote_NoNote ?a0 ?l0 ?c0 ?k0 ?a1 ?l1 ?c1 ?k1 ?a2 ?l2 ?c2 ?k2 ?a3 ?l3 ?c3 ?k3 ?a4 ?l4 ?c4 ?k4 ?a5 ?l5 ?c5 ?k5 ?a6 ?l6 ?c6 ?k6 ?a7 ?l7 ?c7 ?k7 ?a8 ?l8 ?c8 ?k8 ?a9 ?l9 ?c9 ?k9 ?a10 ?l10 ?c10 ?k10 ?a11 ?l11 ?c11 ?k11 ?a12 ?l12 ?c12 ?k12 ?a13 ?l13 ?c13 ?k13 ?a14 ?l14 ?c14 ?k14 ?a15 ?l15 ?c15 ?k15 ?a16 ?l16 ?c16 ?k16 ?a17 ?l17 ?c17 ?k17 ?a18 ?l18 ?c18 ?k18 ?a19 ?l19 ?c19 ?k19 ?a20 ?l20 ?c20 ?k20 ?a21 ?l21 ?c21 ?k21 ?a22 ?l22 ?c22 ?k22 ?z_ValueError ?z_all ?z_bool ?z_dict ?z_int ?z_isinstance ?z_len ?z_list ?z_range ?z_sorted ?z_str ?z_tuple ?g_LONGEST_NAME ?g_NOTHING ?q_NOTHING ?r_NOTHING ?g_BEYOND ?g_MOST_NAMES ?g_NOBODY ?g_MOST_FIGURES
    (case xa_GossipError => k_is)
    (case xq_GossipError => k_exc)
    (case xk_GossipError => k_is)
    (case xb_GossipError => k_is)
    (case xt_GossipError => k_is)
    (case xa_NoName => k_is)
    (case xq_NoName => k_exc)
    (case xk_NoName => k_is)
    (case xb_NoName => k_is)
    (case xt_NoName => k_is)
    (case xa_NoAmount => k_is)
    (case xq_NoAmount => k_exc)
    (case xk_NoAmount => k_is)
    (case xb_NoAmount => k_is)
    (case xt_NoAmount => k_is)
    (case xa_NoPage => k_is)
    (case xq_NoPage => k_exc)
    (case xk_NoPage => k_is)
    (case xb_NoPage => k_is)
    (case xt_NoPage => k_is)
    (case xa_Forged => k_is)
    (case xq_Forged => k_exc)
    (case xk_Forged => k_is)
    (case xb_Forged => k_is)
    (case xt_Forged => k_is)
    (case xa_NoNote => k_is)
    (case xq_NoNote => k_exc)
    (case xk_NoNote => k_is)
    (case xb_NoNote => k_is)
    (case xt_NoNote => k_is)
    (case hdR => k_is)
    (case sG_NoNote => k_is)
    (case yg_NoNote => k_is)
    (case yk_NoNote => k_is)
    (case yd_NoNote => k_is)
    (case ya_NoNote => k_is)
    (case yn_NoNote => k_is)
    (case yt_NoNote => k_is)
    (case ym_NoNote => k_is)
    (case kv_NoNote => kit_is)
    (case ki_NoNote_NoName => kit_is)
    (case ki_NoNote_NoAmount => kit_is)
    (case ki_NoNote_NoPage => kit_is)
    (case ki_NoNote_Forged => kit_is)
    (case ki_NoNote_NoNote => kit_is)
    (case a0 => k_is)
    (case l0 => k_is)
    (case c0 => k_is)
    (case k0 => k_is)
    (case a1 => k_is)
    (case l1 => k_is)
    (case c1 => k_is)
    (case k1 => k_is)
    (case a2 => k_is)
    (case l2 => k_is)
    (case c2 => k_is)
    (case k2 => k_is)
    (case a3 => k_is)
    (case l3 => k_is)
    (case c3 => k_is)
    (case k3 => k_is)
    (case a4 => k_is)
    (case l4 => k_is)
    (case c4 => k_is)
    (case k4 => k_is)
    (case a5 => k_is)
    (case l5 => k_is)
    (case c5 => k_is)
    (case k5 => k_is)
    (case a6 => k_is)
    (case l6 => k_is)
    (case c6 => k_is)
    (case k6 => k_is)
    (case a7 => k_is)
    (case l7 => k_is)
    (case c7 => k_is)
    (case k7 => k_is)
    (case a8 => k_is)
    (case l8 => k_is)
    (case c8 => k_is)
    (case k8 => k_is)
    (case a9 => k_is)
    (case l9 => k_is)
    (case c9 => k_is)
    (case k9 => k_is)
    (case a10 => k_is)
    (case l10 => k_is)
    (case c10 => k_is)
    (case k10 => k_is)
    (case a11 => k_is)
    (case l11 => k_is)
    (case c11 => k_is)
    (case k11 => k_is)
    (case a12 => k_is)
    (case l12 => k_is)
    (case c12 => k_is)
    (case k12 => k_is)
    (case a13 => k_is)
    (case l13 => k_is)
    (case c13 => k_is)
    (case k13 => k_is)
    (case a14 => k_is)
    (case l14 => k_is)
    (case c14 => k_is)
    (case k14 => k_is)
    (case a15 => k_is)
    (case l15 => k_is)
    (case c15 => k_is)
    (case k15 => k_is)
    (case a16 => k_is)
    (case l16 => k_is)
    (case c16 => k_is)
    (case k16 => k_is)
    (case a17 => k_is)
    (case l17 => k_is)
    (case c17 => k_is)
    (case k17 => k_is)
    (case a18 => k_is)
    (case l18 => k_is)
    (case c18 => k_is)
    (case k18 => k_is)
    (case a19 => k_is)
    (case l19 => k_is)
    (case c19 => k_is)
    (case k19 => k_is)
    (case a20 => k_is)
    (case l20 => k_is)
    (case c20 => k_is)
    (case k20 => k_is)
    (case a21 => k_is)
    (case l21 => k_is)
    (case c21 => k_is)
    (case k21 => k_is)
    (case a22 => k_is)
    (case l22 => k_is)
    (case c22 => k_is)
    (case k22 => k_is)
    (case z_ValueError => k_is)
    (case z_all => k_is)
    (case z_bool => k_is)
    (case z_dict => k_is)
    (case z_int => k_is)
    (case z_isinstance => k_is)
    (case z_len => k_is)
    (case z_list => k_is)
    (case z_range => k_is)
    (case z_sorted => k_is)
    (case z_str => k_is)
    (case z_tuple => k_is)
    (case g_LONGEST_NAME => k_is)
    (case g_NOTHING => k_is)
    (case q_NOTHING => k_is)
    (case r_NOTHING => rfl)
    (case g_BEYOND => k_is)
    (case g_MOST_NAMES => k_is)
    (case g_NOBODY => k_is)
    (case g_MOST_FIGURES => k_is)
