import PyProof.Rows.All
import Wide.All
import OpenK.AllK
import Wide.FinOn
import HandS.ForMost
import HandS.Evl
import HandS.IsInst
import HandS.Style
import HandS.DictComp
import HandS.SortInts
import HandS.SetKeys

import HandS.Walk
import HandS.More
import HandS.Finally
import HandS.Set
import HandS.SetFor
import HandS.WordsExc
import HandS.ExcIs
import HandS.HotCalls
import KE.RegKIsAll
import KE.GoesEnum
import PySem.Challenge.RW_gossipcount_k12_rooms
set_option Elab.async false
set_option linter.all false
set_option maxRecDepth 100000
set_option maxHeartbeats 4000000
namespace GC
open PySem
/-! ### every slot of a set's table is met: i to 5 i + 1 -/
def lcg (N : Nat) : Nat → Nat → Nat
  | 0, i => i
  | m + 1, i => lcg N m ((i * 5 + 1) % N)
def orb (N : Nat) : Nat → Nat → Nat → Nat
  | 0, _, acc => acc
  | n + 1, x, acc => orb N n ((x * 5 + 1) % N) (acc ||| (1 <<< x))
theorem orb_bit {N : Nat} : ∀ {n x acc j : Nat}, (orb N n x acc).testBit j = true → acc.testBit j = true ∨ ∃ m, m < n ∧ lcg N m x = j
  | 0, _, _, _, h => .inl h
  | n + 1, x, acc, j, h => by
    rcases orb_bit (n := n) h with h | ⟨m, h1, h2⟩
    · rw [Nat.testBit_or, Bool.or_eq_true] at h
      rcases h with h | h
      · exact .inl h
      · refine .inr ⟨0, Nat.succ_pos _, ?_⟩
        rw [Nat.one_shiftLeft, Nat.testBit_two_pow] at h
        exact of_decide_eq_true h
    · exact .inr ⟨m + 1, Nat.succ_lt_succ h1, h2⟩
theorem lcg_add {N : Nat} : ∀ (a b i : Nat), lcg N (a + b) i = lcg N b (lcg N a i)
  | 0, b, i => by rw [Nat.zero_add]; rfl
  | a + 1, b, i => by
    rw [Nat.succ_add]
    exact lcg_add a b _
def goodN (N : Nat) : Bool := decide (orb N N 0 0 = 2 ^ N - 1) && decide (lcg N N 0 = 0)
theorem lcg_all {N : Nat} (h : goodN N = true) {i j : Nat} (hi : i < N) (hj : j < N) : ∃ m, m < N ∧ lcg N m i = j := by
  unfold goodN at h
  rw [Bool.and_eq_true] at h
  have h1 := of_decide_eq_true h.1
  have h2 := of_decide_eq_true h.2
  have all : ∀ j, j < N → ∃ m, m < N ∧ lcg N m 0 = j := fun j hj => by
    have : (orb N N 0 0).testBit j = true := by rw [h1, Nat.testBit_two_pow_sub_one]; exact decide_eq_true hj
    rcases orb_bit this with h | h
    · simp at h
    · exact h
  obtain ⟨a, ha, ea⟩ := all i hi
  obtain ⟨b, hb, eb⟩ := all j hj
  rcases Nat.le_total a b with hab | hab
  · refine ⟨b - a, by omega, ?_⟩
    rw [← ea, ← lcg_add, show a + (b - a) = b by omega, eb]
  · rcases Nat.eq_or_lt_of_le hab with e | lt
    · exact ⟨0, by omega, by rw [← ea, ← e, ← eb]; rfl⟩
    · refine ⟨N - a + b, by omega, ?_⟩
      rw [← ea, ← lcg_add, show a + (N - a + b) = N + b by omega, lcg_add, h2, eb]
theorem good_sizes : ∀ N ∈ [8, 16, 32, 64, 128, 256, 512, 1024, 2048], goodN N = true := by decide +kernel
/-- the steps of a search: the slot and what is left of the hash -/
def leaps (mask : Nat) : Nat → Nat × Nat → Nat × Nat
  | 0, p => p
  | m + 1, p => leaps mask m (SetTable.leap mask p.1 p.2)
theorem leaps_zero {mask : Nat} : ∀ (m i : Nat), leaps mask m (i, 0) = (lcg (mask + 1) m i, 0)
  | 0, _ => rfl
  | m + 1, i => by
    show leaps mask m (SetTable.leap mask i 0) = _
    unfold SetTable.leap
    rw [Nat.zero_div, Nat.add_zero]
    exact leaps_zero m _
theorem leaps_add {mask : Nat} : ∀ (a b : Nat) (p : Nat × Nat), leaps mask (a + b) p = leaps mask b (leaps mask a p)
  | 0, b, p => by rw [Nat.zero_add]; rfl
  | a + 1, b, p => by
    rw [Nat.succ_add]
    exact leaps_add a b _
theorem leaps_pert {mask : Nat} : ∀ (m : Nat) (p : Nat × Nat), (leaps mask m p).2 = p.2 / 32 ^ m
  | 0, p => by rw [Nat.pow_zero, Nat.div_one]; rfl
  | m + 1, p => by
    show (leaps mask m _).2 = _
    rw [leaps_pert m]
    show p.2 / 32 / 32 ^ m = _
    rw [Nat.div_div_eq_div_mul, ← Nat.pow_succ']
theorem leaps_lt {mask : Nat} : ∀ (m : Nat) (p : Nat × Nat), p.1 < mask + 1 → (leaps mask m p).1 < mask + 1
  | 0, _, h => h
  | m + 1, p, _ => leaps_lt m _ (Nat.mod_lt _ (Nat.succ_pos _))
theorem leaps_all {mask : Nat} (h : goodN (mask + 1) = true) {p : Nat × Nat} (h1 : p.1 < mask + 1) (h2 : p.2 < 2 ^ 64) {j : Nat} (hj : j < mask + 1) : ∃ m, m < SetTable.turns mask ∧ (leaps mask m p).1 = j := by
  have hp : (leaps mask 13 p).2 = 0 := by
    rw [leaps_pert]
    exact Nat.div_eq_of_lt (Nat.lt_of_lt_of_le h2 (by decide))
  obtain ⟨m, hm, e⟩ := lcg_all h (leaps_lt 13 p h1) hj
  refine ⟨13 + m, by unfold SetTable.turns; omega, ?_⟩
  rw [leaps_add]
  have : leaps mask 13 p = ((leaps mask 13 p).1, 0) := by rw [← hp]
  rw [this, leaps_zero]
  exact e
/-- a free slot is found -/
theorem free_none {mask : Nat} {owner : Array (Option Nat)} : ∀ (fuel i pert : Nat), i ≤ mask → SetTable.layClean.free mask owner fuel i pert = none → ∀ m, m < fuel → (owner.getD (leaps mask m (i, pert)).1 (some 0)).isNone = false
  | 0, _, _, _, _, m, h => absurd h (Nat.not_lt_zero _)
  | fuel + 1, i, pert, hi, h, m, hm => by
    unfold SetTable.layClean.free at h
    split at h
    · cases h
    · rename_i e
      cases m with
      | zero =>
        have h0 := List.find?_eq_none.mp e 0 (List.mem_range.mpr (by unfold SetTable.runEnd; split <;> omega))
        rw [Nat.add_zero, Bool.not_eq_true] at h0
        exact h0
      | succ m => exact free_none fuel _ _ (Nat.le_of_lt_succ (Nat.mod_lt _ (Nat.succ_pos _))) h m (Nat.lt_of_succ_lt_succ hm)
theorem free_some {mask : Nat} {owner : Array (Option Nat)} : ∀ (fuel i pert : Nat) {j : Nat}, i ≤ mask → SetTable.layClean.free mask owner fuel i pert = some j → j ≤ mask ∧ (owner.getD j (some 0)).isNone = true
  | 0, _, _, _, _, h => by cases h
  | fuel + 1, i, pert, j, hi, h => by
    unfold SetTable.layClean.free at h
    split at h
    · rename_i k e
      obtain rfl := Option.some.inj h
      have h1 := List.mem_of_find?_eq_some e
      have h2 := List.find?_some (p := fun k => (owner.getD (i + k) (some 0)).isNone) e
      have h3 := List.mem_range.mp h1
      refine ⟨?_, h2⟩
      unfold SetTable.runEnd at h3
      split at h3 <;> omega
    · exact free_some fuel _ _ (Nat.le_of_lt_succ (Nat.mod_lt _ (Nat.succ_pos _))) h
theorem free_is {mask : Nat} {owner : Array (Option Nat)} (h : goodN (mask + 1) = true) {i pert j : Nat} (hi : i ≤ mask) (hp : pert < 2 ^ 64) (hj : j ≤ mask) (hn : (owner.getD j (some 0)).isNone = true) :
    ∃ j', SetTable.layClean.free mask owner (SetTable.turns mask) i pert = some j' ∧ j' ≤ mask ∧ (owner.getD j' (some 0)).isNone = true := by
  cases c : SetTable.layClean.free mask owner (SetTable.turns mask) i pert with
  | some j' => exact ⟨j', rfl, free_some _ _ _ hi c⟩
  | none =>
    obtain ⟨m, hm, e⟩ := leaps_all h (p := (i, pert)) (Nat.lt_succ_of_le hi) hp (Nat.lt_succ_of_le hj)
    have := free_none _ _ _ hi c m hm
    rw [e, hn] at this
    cases this

/-! ### a table laid anew holds all its elements -/
theorem fm_set {α : Type} : ∀ {l : List (Option α)} {j : Nat} {k : α}, l[j]? = some none → ((l.set j (some k)).filterMap id).Perm (k :: l.filterMap id)
  | [], j, _, h => by simp at h
  | a :: r, 0, k, h => by
    obtain rfl : a = none := Option.some.inj h
    rw [List.set_cons_zero, List.filterMap_cons, List.filterMap_cons]
    exact List.Perm.refl _
  | a :: r, j + 1, k, h => by
    have ih := fm_set (l := r) (j := j) (k := k) (by simpa using h)
    rw [List.set_cons_succ, List.filterMap_cons, List.filterMap_cons]
    cases a with
    | none => exact ih
    | some x => exact (ih.cons x).trans (List.Perm.swap _ _ _)
theorem fm_free {α : Type} : ∀ {l : List (Option α)}, (l.filterMap id).length < l.length → ∃ j, j < l.length ∧ l[j]? = some none
  | [], h => by simp at h
  | none :: r, _ => ⟨0, by simp, rfl⟩
  | some x :: r, h => by
    rw [List.filterMap_cons] at h
    obtain ⟨j, h1, h2⟩ := fm_free (l := r) (by simpa using h)
    exact ⟨j + 1, by simpa using h1, by simpa using h2⟩
theorem range_getD {α : Type} {a : Array (Option α)} : (List.range a.size).map (fun j => a.getD j none) = a.toList := by
  refine List.ext_getElem? fun i => ?_
  rw [List.getElem?_map]
  by_cases h : i < a.size
  · rw [List.getElem?_range h]
    simp [h]
  · rw [List.getElem?_eq_none (by simp; omega), List.getElem?_eq_none (by simp; omega)]
    rfl
theorem bits_lt (h : Int) : SetTable.bits h < 2 ^ 64 := by
  unfold SetTable.bits
  have h1 := Int.emod_nonneg h (show (2 ^ 64 : Int) ≠ 0 by decide)
  have h2 := Int.emod_lt_of_pos h (show (0 : Int) < 2 ^ 64 by decide)
  omega
theorem getD_none {a : Array (Option Nat)} {j : Nat} : (a.getD j (some 0)).isNone = true ↔ a.toList[j]? = some none := by
  rw [Array.getD_eq_getD_getElem?, Array.getElem?_toList]
  cases a[j]? with
  | none => simp
  | some x => simp
/-- how the table is laid, hash by hash -/
def layStep (mask : Nat) (acc : Option (Array (Option Nat) × Nat)) (h : Int) : Option (Array (Option Nat) × Nat) := do
  let (owner, k) ← acc
  let j ← SetTable.layClean.free mask owner (SetTable.turns mask) (SetTable.bits h % (mask + 1)) (SetTable.bits h)
  pure (owner.setIfInBounds j (some k), k + 1)
theorem lay_fold {mask : Nat} (hg : goodN (mask + 1) = true) : ∀ (hs : List Int) (owner : Array (Option Nat)) (k : Nat), owner.size = mask + 1 → (owner.toList.filterMap id).Perm (List.range k) → k + hs.length ≤ mask →
    ∃ owner', hs.foldl (layStep mask) (some (owner, k)) = some (owner', k + hs.length) ∧ owner'.size = mask + 1 ∧ (owner'.toList.filterMap id).Perm (List.range (k + hs.length))
  | [], owner, k, h1, h2, _ => ⟨owner, rfl, h1, h2⟩
  | h :: hs, owner, k, h1, h2, h3 => by
    rw [List.length_cons] at h3
    obtain ⟨j, hj1, hj2⟩ := fm_free (l := owner.toList) (by rw [h2.length_eq, List.length_range, Array.length_toList, h1]; omega)
    rw [Array.length_toList, h1] at hj1
    obtain ⟨j', e, hj', hn'⟩ := free_is (mask := mask) (owner := owner) hg (i := SetTable.bits h % (mask + 1)) (pert := SetTable.bits h) (Nat.le_of_lt_succ (Nat.mod_lt _ (Nat.succ_pos _))) (bits_lt h) (Nat.le_of_lt_succ hj1) (getD_none.mpr hj2)
    have step : layStep mask (some (owner, k)) h = some (owner.setIfInBounds j' (some k), k + 1) := by
      unfold layStep
      show (do let j ← SetTable.layClean.free mask owner _ _ _; pure _ : Option _) = _
      rw [e]
      rfl
    obtain ⟨owner', f1, f2, f3⟩ := lay_fold hg hs (owner.setIfInBounds j' (some k)) (k + 1) (by rw [Array.size_setIfInBounds, h1]) (by
      rw [Array.toList_setIfInBounds]
      refine (fm_set (getD_none.mp hn')).trans ?_
      rw [List.range_succ]
      exact (h2.cons k).trans (List.perm_append_comm (l₁ := [k]) (l₂ := List.range k))) (by omega)
    refine ⟨owner', ?_, f2, ?_⟩
    · rw [List.foldl_cons, step, f1, List.length_cons]
      congr 2
      omega
    · rw [List.length_cons, show k + (hs.length + 1) = k + 1 + hs.length by omega]
      exact f3
theorem laid_ok {mask finger moves : Nat} {led plain : Bool} {hs : Array Int} (hg : goodN (mask + 1) = true) (hl : hs.size ≤ mask) :
    ∃ t order, SetTable.laid mask finger moves led plain hs = some (t, order) ∧ order.toList.Perm (List.range hs.size) ∧ t.mask = mask ∧ t.place.size = hs.size ∧ t.dummies = #[] ∧ t.finger = finger ∧ t.led = led ∧ t.plain = plain ∧ L2.Ris t.place.toList := by
  obtain ⟨owner, h1, h2, h3⟩ := lay_fold hg hs.toList (Array.replicate (mask + 1) none) 0 (Array.size_replicate ..) (by
    have : ∀ n, ((List.replicate n (none : Option Nat)).filterMap id) = [] := fun n => by
      induction n with
      | zero => rfl
      | succ n ih => rw [List.replicate_succ, List.filterMap_cons]; exact ih
    rw [Array.toList_replicate, this]
    exact List.Perm.refl _) (by simpa using hl)
  rw [Nat.zero_add, Array.length_toList] at h1 h3
  have hc : SetTable.layClean mask hs = some owner := by
    unfold SetTable.layClean
    show (Array.foldl (layStep mask) (some (Array.replicate (mask + 1) none, 0)) hs).map (·.1) = _
    rw [← Array.foldl_toList, h1]
    rfl
  have ho : ((List.range (mask + 1)).filterMap fun j => (owner.getD j none).map (j, ·)).map (·.2) = owner.toList.filterMap id := by
    rw [← range_getD, h2, List.map_filterMap, List.filterMap_map]
    congr 1
    funext j
    show Option.map _ (Option.map _ _) = _
    rw [Option.map_map]
    show Option.map (fun x => x) _ = owner.getD j none
    cases owner.getD j none <;> rfl
  refine ⟨_, _, by unfold SetTable.laid; rw [hc]; rfl, ?_, rfl, ?_, rfl, rfl, rfl, rfl, (L2.ris_live (fun j => owner.getD j none) (List.range (mask + 1)) (by unfold L2.Ris; first | exact List.pairwise_lt_range | exact List.pairwise_lt_range _)).1⟩
  · rw [ho]
    exact h3
  · have := congrArg List.length ho
    rw [List.length_map, h3.length_eq, List.length_range] at this
    show ((List.map _ _).toArray).size = _
    rw [List.size_toArray, List.length_map, this]
/-- all the elements, in another order -/
theorem order_perm {α : Type} {es : Array α} {order : Array Nat} (h : order.toList.Perm (List.range es.size)) : (order.filterMap (es[·]?)).toList.Perm es.toList := by
  rw [Array.toList_filterMap]
  refine (h.filterMap _).trans ?_
  have : ∀ l : List α, (List.range l.length).filterMap (l[·]?) = l := fun l => by
    induction l with
    | nil => rfl
    | cons a r ih =>
      rw [List.length_cons, List.range_succ_eq_map, List.filterMap_cons, List.filterMap_map]
      show a :: _ = _
      congr 1
  have e := this es.toList
  rw [Array.length_toList] at e
  have e2 : (fun x : Nat => es[x]?) = fun x : Nat => es.toList[x]? := by funext x; rw [Array.getElem?_toList]
  rw [e2, e]

/-! ### a set of scannable keys, its table kept walkable -/
section
variable {prog : Program} {w : World} {κ : Type} [DecidableEq κ] (knd : KeyKind prog w κ)
def GoodT (S : κ → Bool) (n : Nat) (es : Array (Int × Value)) (t : SetTable) : Prop :=
  ElemsOf knd es.toList ∧ (∀ k, S k = true ↔ ∃ e ∈ es.toList, knd.is k e.2 = true) ∧ es.size < scanBound ∧ t.fits es.size = true ∧ es.size = n ∧ L2.Ris t.place.toList ∧ (w.params.followText "set-order" = true ∨ t.led = true)
def TSet (h : Heap) (a : Addr) (S : κ → Bool) (n : Nat) : Prop := ∃ o es ep t, h.get? a = some o ∧ o.ExactSet ∧ o.data = .set es ep t ∧ GoodT knd S n es t
variable {knd} {A : Around} {E : Value → Shared → Prop} {s : Shared} {a : Addr} {S : κ → Bool} {n : Nat}
theorem GoodT.perm {es es' : Array (Int × Value)} {t t' : SetTable} (h : GoodT knd S n es t) (p : es'.toList.Perm es.toList) (hf : t'.fits es'.size = true) (hr : L2.Ris t'.place.toList) (hl : t.led = true → t'.led = true) : GoodT knd S n es' t' := by
  obtain ⟨h1, h2, h3, h4, h5, h6, h7⟩ := h
  have hz : es'.size = es.size := by rw [← Array.length_toList, p.length_eq, Array.length_toList]
  exact ⟨h1.perm p, fun k => (h2 k).trans ⟨fun ⟨e, he, q⟩ => ⟨e, p.mem_iff.mpr he, q⟩, fun ⟨e, he, q⟩ => ⟨e, p.mem_iff.mp he, q⟩⟩, by rw [hz]; exact h3, hf, by rw [hz]; exact h5, hr, h7.imp id hl⟩
theorem tset_store {h : Heap} {o : Obj} {es es' : Array (Int × Value)} {ep : Nat} {t t' : SetTable} (ho : h.get? a = some o) (hex : o.ExactSet) (hd : o.data = .set es ep t) (g : GoodT knd S n es' t') :
    (h.update a (Obj.putSet es' t')).get? a = some { o with data := .set es' (ep + 1) t' } ∧ TSet knd (h.update a (Obj.putSet es' t')) a S n := by
  have hg : (h.update a (Obj.putSet es' t')).get? a = some { o with data := .set es' (ep + 1) t' } := by
    have := Heap.get?_update_self (Obj.putSet es' t') ho (by rw [putSet_of es' t' hd]; rfl)
    rw [putSet_of es' t' hd] at this
    exact this
  exact ⟨hg, _, es', ep + 1, t', hg, hex, rfl, g⟩
theorem GoodT.push {es es1 : Array (Int × Value)} {t t1 : SetTable} {k : κ} {x : Value} (h : GoodT knd S n es t) (hk : knd.is k x = true) (hx : x.scannable = true) (hroom : n + 1 < scanBound)
    (p : es1.toList.Perm (es.toList ++ [(knd.hash k, x)])) (hf : t1.fits es1.size = true) (hr : L2.Ris t1.place.toList) (hl : t1.led = t.led) : GoodT knd (fun k' => S k' || decide (k' = k)) (n + 1) es1 t1 := by
  obtain ⟨h1, h2, h3, h4, h5, h6, h7⟩ := h
  have hz : es1.size = n + 1 := by rw [← Array.length_toList, p.length_eq, List.length_append, Array.length_toList, h5]; rfl
  exact ⟨(h1.push hk hx).perm p, mem_push_iff hk h2 p, by rw [hz]; exact hroom, hf, hz, hr, h7.imp id fun z => by rw [hl]; exact z⟩
theorem GoodT.plainOff {es : Array (Int × Value)} {t : SetTable} (h : GoodT knd S n es t) : GoodT knd S n es { t with plain := false } := h.perm (List.Perm.refl _) (SetTable.fits_plain_off h.2.2.2.1) h.2.2.2.2.2.1 id
theorem GoodT.relay {es : Array (Int × Value)} {t : SetTable} (m : Nat) (h : GoodT knd S n es t) : GoodT knd S n (relayAll t es m).1 (relayAll t es m).2.1 :=
  h.perm (relayAll_perm t es m) (relayAll_fits t es m) (L2.relayAll_ris t es m) fun z => by rw [L2.relayAll_led]; exact z
theorem tset_tail {g : Bool → Sem Unit} (hg : ∀ (b : Bool) (s₁ : Shared) (Q' : Unit → Shared → Prop), Q' () s₁ → wpAny (model prog w) A (g b) Q' E s₁) {o : Obj} {es es1 : Array (Int × Value)} {ep : Nat} {t t2 : SetTable}
    (ho : s.heap.get? a = some o) (hex : o.ExactSet) (hd : o.data = .set es ep t) (gd : GoodT knd S n es1 t2) {wasDummy : Bool} {R : Option Bool → Shared → Prop}
    (h : ∀ h', Heap.SameBut a s.heap h' → TSet knd h' a S n → R (some true) { s with heap := h' }) :
    wpAny (model prog w) A (do
        storeSet a es1 t2
        if (!wasDummy && t2.tooFull) = true then do
            g (relayAll t2 es1 (SetTable.grown es1.size)).2.2
            storeSet a (relayAll t2 es1 (SetTable.grown es1.size)).1 (relayAll t2 es1 (SetTable.grown es1.size)).2.1
            pure (some true)
          else pure (some true)) R E s := by
  refine wpAny_bind (wpAny_storeSet_of ho hd ?_ (fits_of_scanBound gd.2.2.1))
  obtain ⟨ho1, hT⟩ := tset_store ho hex hd gd
  have sb := Heap.SameBut.update s.heap a (Obj.putSet es1 t2)
  split
  · have g2 := gd.relay (SetTable.grown es1.size)
    refine wpAny_bind (hg _ _ _ ?_)
    refine wpAny_bind (wpAny_storeSet_of ho1 rfl ?_ (fits_of_scanBound g2.2.2.1))
    exact wpAny_pure (h _ (sb.trans (Heap.SameBut.update _ a _)) (tset_store ho1 hex rfl g2).2)
  · exact wpAny_pure (h _ sb hT)
theorem tset_add {k : κ} {x : Value} {Q : Bool → Shared → Prop} (hk : knd.is k x = true) (hx : x.scannable = true) (R : TSet knd s.heap a S n) (hroom : n + 1 < scanBound)
    (h : ∀ b h' n', Heap.SameBut a s.heap h' → n' ≤ n + 1 → TSet knd h' a (fun k' => S k' || decide (k' = k)) n' → Q b { s with heap := h' }) :
    wpAny (model prog w) A (setAddHashed a x (knd.hash k)) Q E s := by
  obtain ⟨o, es, ep, t, ho, hex, hd, gd⟩ := R
  obtain ⟨hel, hmem, hb, hf, hn, hr, hl⟩ := id gd
  unfold setAddHashed setAddHashedIn
  refine wpAny_holding (wpAny_bind (wpAny_setState_of ho hd hf ?_))
  dsimp only
  rw [byScan_of hx hb hel]
  simp only [↓reduceIte]
  unfold setAddByScan
  refine wpAny_bind (wpAny_bind (wpAny_rule (wpAny_bind (wpAny_setScan_of hk ho hd hf hel ?_))))
  cases hi : List.findIdx? (fun e => knd.is k e.2) es.toList with
  | some j =>
    dsimp only
    obtain ⟨hj, hpj, _⟩ := List.findIdx?_eq_some_iff_getElem.mp hi
    have hSk : S k = true := (hmem k).mpr ⟨es.toList[j], List.getElem_mem hj, hpj⟩
    have same : (fun k' => S k' || decide (k' = k)) = S := by
      funext k'
      by_cases c : k' = k
      · rw [c, hSk]; rfl
      · rw [decide_eq_false c, Bool.or_false]
    refine wpAny_pure (wpAny_pure ?_)
    have := h false s.heap n (Heap.SameBut.refl a s.heap) (Nat.le_succ _) (by rw [same]; exact ⟨o, es, ep, t, ho, hex, hd, gd⟩)
    exact this
  | none =>
    dsimp only
    have gw : ∀ (b : Bool) {s₁ : Shared} {Q' : Unit → Shared → Prop}, Q' () s₁ → wpAny (model prog w) A (match b with | true => rule "set.scan.the-table-gave-way" | false => pure ()) Q' E s₁ :=
      fun b s₁ Q' q => by cases b <;> first | exact wpAny_pure q | exact wpAny_rule q
    have pm := layNew_perm t es (knd.hash k) x
    have hf1 := layNew_fits t es (knd.hash k) x
    have hr1 := L2.layNew_ris t es (knd.hash k) x hr
    have hl1 := L2.layNew_led t es (knd.hash k) x
    generalize layNew t es (knd.hash k) x = Z at pm hf1 hr1 hl1 ⊢
    obtain ⟨es1, t1, wasDummy, gave⟩ := Z
    dsimp only at pm hf1 hr1 hl1 ⊢
    rw [Array.toList_push] at pm
    have g1 := gd.push hk hx hroom pm hf1 hr1 hl1
    refine wpAny_bind (gw _ ?_)
    split
    · refine wpAny_bind ?_
      rw [hashByValue_scannable 8 hx]
      refine wpAny_pure ?_
      refine tset_tail (knd := knd) (S := fun k' => S k' || decide (k' = k)) (n := n + 1) (fun b s₁ Q' q => by cases b <;> first | exact wpAny_pure q | exact wpAny_rule q) ho hex hd ?_ fun h' sb r => ?_
      · split
        · exact g1
        · exact g1.plainOff
      · dsimp only
        exact wpAny_pure (h true h' (n + 1) sb (Nat.le_refl _) r)
    · refine wpAny_bind (wpAny_pure ?_)
      simp only [↓reduceIte]
      refine tset_tail (knd := knd) (S := fun k' => S k' || decide (k' = k)) (n := n + 1) (fun b s₁ Q' q => by cases b <;> first | exact wpAny_pure q | exact wpAny_rule q) ho hex hd g1 fun h' sb r => ?_
      dsimp only
      exact wpAny_pure (h true h' (n + 1) sb (Nat.le_refl _) r)
end

/-! ### room in a set -/
theorem above_ok : ∀ n < 2048, SetTable.sizeAbove n ∈ [8, 16, 32, 64, 128, 256, 512, 1024, 2048] ∧ n < SetTable.sizeAbove n := by decide +kernel
theorem above_good {n : Nat} (h : n < 2048) : goodN (SetTable.sizeAbove n - 1 + 1) = true ∧ n ≤ SetTable.sizeAbove n - 1 ∧ SetTable.sizeAbove n ≤ 2048 := by
  obtain ⟨h1, h2⟩ := above_ok n h
  have h3 : SetTable.sizeAbove n - 1 + 1 = SetTable.sizeAbove n := by omega
  refine ⟨by rw [h3]; exact good_sizes _ h1, by omega, ?_⟩
  simp only [List.mem_cons, List.not_mem_nil, or_false] at h1
  omega
section
variable {prog : Program} {w : World} {κ : Type} [DecidableEq κ] {knd : KeyKind prog w κ} {A : Around} {E : Value → Shared → Prop} {s : Shared} {a : Addr} {S : κ → Bool} {n : Nat}
theorem set_relay {wanted : Nat} {Q : Unit → Shared → Prop} {o : Obj} {es : Array (Int × Value)} {ep : Nat} {t : SetTable} (ho : s.heap.get? a = some o) (hex : o.ExactSet) (hd : o.data = .set es ep t) (g : GoodT knd S n es t) (hw : n ≤ wanted) (hb : wanted < 2048)
    (k : ∀ h' es' t', Heap.SameBut a s.heap h' → h'.get? a = some { o with data := .set es' (ep + 1) t' } → GoodT knd S n es' t' → t'.mask = SetTable.sizeAbove wanted - 1 → t'.dummies = #[] → Q () { s with heap := h' }) :
    wpAny (model prog w) A (setRelay a wanted) Q E s := by
  obtain ⟨hel, hmem, hbd, hf, hn, hr, hl⟩ := id g
  obtain ⟨a1, a2, a3⟩ := above_good hb
  obtain ⟨t', order, e1, e2, e3, e4, e5, e6, e7, e8, e9⟩ := laid_ok (mask := SetTable.sizeAbove wanted - 1) (finger := t.finger) (moves := t.movedTo (SetTable.sizeAbove wanted - 1)) (led := t.led) (plain := t.plain) (hs := es.map (·.1)) a1 (by rw [Array.size_map]; omega)
  rw [Array.size_map] at e2 e4
  have hrl : t.relaid (es.map (·.1)) wanted = some (t', order) := e1
  have hp := order_perm (es := es) e2
  have hz : (order.filterMap (es[·]?)).size = es.size := by rw [← Array.length_toList, hp.length_eq, Array.length_toList]
  have g' : GoodT knd S n (order.filterMap (es[·]?)) t' := g.perm hp (by
    unfold SetTable.fits SetTable.fill
    rw [e4, hz, e5, e3, Bool.and_eq_true, beq_iff_eq, decide_eq_true_eq]
    exact ⟨rfl, by show es.size + 0 ≤ _; omega⟩) (L2.relaid_ris hrl).1 fun z => by rw [(L2.relaid_ris hrl).2]; exact z
  unfold setRelay
  refine wpAny_bind (wpAny_setState_of ho hd hf ?_)
  dsimp only
  rw [if_neg (by rw [sizeLine_eq]; omega)]
  rw [hrl]
  refine wpAny_bind ?_
  show wpAny _ _ (@ite (Sem (Array (Int × Value) × SetTable)) (((order.filterMap (es[·]?)).size != es.size) = true) _ _ _) _ _ _
  rw [if_neg (by rw [hz]; simp)]
  refine wpAny_pure ?_
  refine wpAny_storeSet_of ho hd ?_ (fits_of_scanBound g'.2.2.1)
  have st := tset_store ho hex hd g'
  exact k _ _ _ (Heap.SameBut.update s.heap a _) st.1 g' e3 e5
theorem tset_room {more : Nat} {Q : Unit → Shared → Prop} (R : TSet knd s.heap a S n) (hb : (n + more) * 2 < 2048) (k : ∀ h', Heap.SameBut a s.heap h' → TSet knd h' a S n → Q () { s with heap := h' }) : wpAny (model prog w) A (setRoomFor a more) Q E s := by
  obtain ⟨o, es, ep, t, ho, hex, hd, g⟩ := R
  obtain ⟨hel, hmem, hbd, hf, hn, hr, hl⟩ := id g
  have hps : t.place.size = n := by
    unfold SetTable.fits at hf
    rw [Bool.and_eq_true, beq_iff_eq] at hf
    rw [hf.1, hn]
  unfold setRoomFor
  refine wpAny_bind (wpAny_setState_of ho hd hf ?_)
  dsimp only
  unfold SetTable.roomFor
  by_cases c : (t.fill + more) * 5 ≥ t.mask * 3
  · rw [if_pos c, hps]
    dsimp only
    exact set_relay ho hex hd g (by omega) hb fun h' es' t' sb hg g' _ _ => k h' sb ⟨_, es', ep + 1, t', hg, hex, rfl, g'⟩
  · rw [if_neg c]
    exact wpAny_pure (k s.heap (Heap.SameBut.refl a s.heap) ⟨o, es, ep, t, ho, hex, hd, g⟩)
end

/-! ### a set takes a dict's keys -/
section
variable {prog : Program} {w : World} {κ : Type} [DecidableEq κ] {knd : KeyKind prog w κ} {A : Around} {E : Value → Shared → Prop} {s : Shared} {a d : Addr} {S : κ → Bool} {n : Nat}
theorem TSet.cast {h : Heap} {S' : κ → Bool} (R : TSet knd h a S n) (e : ∀ k, S' k = S k) : TSet knd h a S' n := by
  have : S' = S := funext e
  rw [this]
  exact R
theorem upd_loop {nm : String} {od : Obj} {es : Array DictEntry} {ep : Nat} {Q : Unit → Shared → Prop} (R : TSet knd s.heap a S n) (hne : d ≠ a) (hod : s.heap.get? d = some od) (hdd : od.data = .dict es ep)
    (hk : ∀ e ∈ es.toList, ∃ k, knd.is k e.key = true ∧ e.hash = knd.hash k ∧ e.key.scannable = true) (hb : n + es.size + 1 < scanBound)
    (k : ∀ h' n', Heap.SameBut a s.heap h' → n' ≤ n + es.size → TSet knd h' a (fun j => S j || es.toList.any fun e => knd.is j e.key) n' → Q () { s with heap := h' }) :
    wpAny (model prog w) A (forIn [:es.size] PUnit.unit fun i (_ : PUnit) => (do
          let l' ← dictEntries d
          match l'[i]? with
            | some e => do
              let _ ← holding [e.key] (setAddHashed a e.key e.hash)
              let ep' ← dictEpoch d
              if (ep' != ep) = true then do
                  (unsupported (toString nm ++ toString ":changed-during-callback") : Sem PUnit)
                  pure (ForInStep.yield PUnit.unit)
                else pure (ForInStep.yield PUnit.unit)
            | _ => do
              (unsupported "internal:set-from-dict" : Sem PUnit)
              pure (ForInStep.yield PUnit.unit) : Sem (ForInStep PUnit))) Q E s := by
  rw [Std.Legacy.Range.forIn_eq_forIn_range']
  simp only [Std.Legacy.Range.size, Nat.sub_zero, Nat.add_sub_cancel, Nat.div_one]
  refine wpAny_forIn_list _
    (fun rest _ s' => ∃ h' i n', s' = { s with heap := h' } ∧ rest = List.range' i (es.size - i) ∧ i ≤ es.size ∧ Heap.SameBut a s.heap h' ∧ n' ≤ n + i ∧ TSet knd h' a (fun j => S j || (es.toList.take i).any fun e => knd.is j e.key) n')
    _ ?_ ?_ _ _ ⟨s.heap, 0, n, rfl, by simp, Nat.zero_le _, Heap.SameBut.refl _ _, Nat.le_refl _, R.cast fun j => by simp⟩
  · rintro x rest b s' ⟨h', i, n', rfl, hr, hi, sb, hn, R'⟩
    have hlt : i < es.size := by
      rcases Nat.lt_or_ge i es.size with h | h
      · exact h
      · rw [Nat.sub_eq_zero_of_le h] at hr
        simp at hr
    have e : es.size - i = (es.size - (i + 1)) + 1 := by omega
    rw [e, List.range'_succ] at hr
    injection hr with h1 h2
    subst h1
    have hod' : h'.get? d = some od := (sb.2 d hne).trans hod
    refine wpAny_bind (wpAny_dictEntries hod' hdd ?_)
    rw [Array.getElem?_eq_getElem hlt]
    obtain ⟨kk, k1, k2, k3⟩ := hk es[x] (by rw [← Array.getElem_toList]; exact List.getElem_mem _)
    show wpAny _ _ (holding [es[x].key] (setAddHashed a es[x].key es[x].hash) >>= _) _ _ _
    rw [k2]
    refine wpAny_bind (wpAny_holding (tset_add (s := { s with heap := h' }) k1 k3 R' (by omega) fun b h'' n'' sb' hn' R'' => ?_))
    have hod'' : h''.get? d = some od := (sb'.2 d hne).trans hod'
    refine wpAny_bind (wpAny_dictEpoch hod'' hdd ?_)
    rw [if_neg (by simp)]
    refine wpAny_pure ⟨h'', x + 1, n'', rfl, h2, hlt, sb.trans sb', by omega, R''.cast fun j => ?_⟩
    have ht : es.toList.take (x + 1) = es.toList.take x ++ [es[x]] := by
      rw [List.take_succ, Array.getElem?_toList, Array.getElem?_eq_getElem hlt]
      rfl
    have hj : knd.is j es[x].key = decide (j = kk) := KeyKind.is_eq_decide k1 j
    rw [ht, List.any_append, List.any_cons, List.any_nil, Bool.or_false, hj, Bool.or_assoc]
  · rintro b s' ⟨h', i, n', rfl, hr, hi, sb, hn, R'⟩
    have hin : i = es.size := by
      rcases Nat.lt_or_ge i es.size with h | h
      · have e : es.size - i = (es.size - (i + 1)) + 1 := by omega
        rw [e, List.range'_succ] at hr
        exact nomatch hr
      · exact Nat.le_antisymm hi h
    subst hin
    refine k h' n' sb hn (R'.cast fun j => ?_)
    rw [List.take_of_length_le (by simp)]
end

section
variable {prog : Program} {w : World} {κ : Type} [DecidableEq κ] {knd : KeyKind prog w κ} {A : Around} {E : Value → Shared → Prop} {s : Shared} {a d : Addr} {S : κ → Bool} {n : Nat}
theorem any_set {v : Value} {T : String} {b : Bool} {Q : Bool → Shared → Prop} (hT : s.TypeIs v T) (h1 : isSubtype (.type T) (.type "set") = pure b) (h2 : b = false → isSubtype (.type T) (.type "frozenset") = pure false) (h : Q b s) : wpAny (model prog w) A (Builtin.Frozenset.isAnySet v) Q E s := by
  unfold Builtin.Frozenset.isAnySet orM
  refine wpAny_bind (wpAny_isInstance hT h1 ?_)
  cases b with
  | true => exact wpAny_pure h
  | false => exact wpAny_isInstance hT (h2 rfl) h
theorem upd_dict {nm : String} {od : Obj} {es : Array DictEntry} {ep : Nat} {Q : Unit → Shared → Prop} (R : TSet knd s.heap a S n) (hne : d ≠ a) (lo : (d == sysModules) = false) (hod : s.heap.get? d = some od) (hc : od.cls = .type "dict") (hdd : od.data = .dict es ep)
    (hk : ∀ e ∈ es.toList, ∃ k, knd.is k e.key = true ∧ e.hash = knd.hash k ∧ e.key.scannable = true) (hb : (n + es.size) * 2 < 2048)
    (k : ∀ h' n', Heap.SameBut a s.heap h' → n' ≤ n + es.size → TSet knd h' a (fun j => S j || es.toList.any fun e => knd.is j e.key) n' → Q () { s with heap := h' }) :
    wpAny (model prog w) A (Builtin.Frozenset.updateFrom nm a (.ref d)) Q E s := by
  have hT : s.TypeIs (.ref d) "dict" := ⟨od, hod, hc⟩
  unfold Builtin.Frozenset.updateFrom
  refine wpAny_bind (any_set hT F.sub_dict_set (fun _ => F.sub_dict_frozenset) ?_)
  simp only [Bool.false_eq_true, if_false]
  refine wpAny_bind (wpAny_typeOf hT ?_)
  rw [if_pos (by decide)]
  refine wpAny_bind (wpAny_rule ?_)
  unfold Builtin.Frozenset.addrOf
  refine wpAny_bind (wpAny_pure ?_)
  rw [if_neg (by rw [lo]; exact Bool.false_ne_true)]
  refine wpAny_bind (wpAny_dictEpoch hod hdd ?_)
  refine wpAny_bind (wpAny_dictEntries hod hdd ?_)
  refine wpAny_bind (tset_room R hb fun h1 sb1 R1 => ?_)
  have hod1 : h1.get? d = some od := (sb1.2 d hne).trans hod
  refine wpAny_bind (wpAny_dictEntries (s := { s with heap := h1 }) hod1 hdd ?_)
  refine wpAny_bind ?_
  refine upd_loop (s := { s with heap := h1 }) (nm := nm) R1 hne hod1 hdd hk (by show n + es.size + 1 < 4096; omega) fun h2 n' sb2 hn R2 => ?_
  exact wpAny_pure (k h2 n' (sb1.trans sb2) hn R2)
end

/-! ### a set walked unseen -/
section
variable {prog : Program} {w : World} {κ : Type} [DecidableEq κ] {knd : KeyKind prog w κ} {A : Around} {E : Value → Shared → Prop} {s : Shared} {a b : Addr} {S S' : κ → Bool} {n n' : Nat}
theorem set_walk {Q : Array (Int × Value) → Shared → Prop} {o : Obj} {es : Array (Int × Value)} {ep : Nat} {t : SetTable} (ho : s.heap.get? b = some o) (hd : o.data = .set es ep t) (g : GoodT knd S' n' es t)
    (hc : w.params.followText "set-order" = true ∨ t.plain = true ∨ es.size ≤ 1) (k : ∀ ys : Array (Int × Value), ys.toList.Perm es.toList → Q ys s) : wpAny (model prog w) A (setWalk b) Q E s := by
  obtain ⟨hel, hmem, hbd, hf, hn, hr, hl⟩ := id g
  unfold setWalk
  refine wpAny_bind (wpAny_setState_of ho hd hf ?_)
  dsimp only
  refine wpAny_bind (L2.wpAny_byText ?_)
  cases hbt : w.params.followText "set-order" with
  | true =>
    rw [if_pos rfl]
    refine wpAny_bind (wpAny_askSetting (wpAny_pure (k _ (L2.pick_perm _ _))))
  | false =>
    simp only [Bool.false_eq_true, if_false]
    have hled : t.led = true := hl.resolve_left (by rw [hbt]; exact Bool.false_ne_true)
    have hc' : t.plain = true ∨ es.size ≤ 1 := hc.resolve_left (by rw [hbt]; exact Bool.false_ne_true)
    have h1 : ¬ ((!t.plain && decide (es.size > 1)) = true) := fun z => by
      rw [Bool.and_eq_true] at z
      rcases hc' with h | h
      · rw [h] at z
        exact Bool.false_ne_true z.1
      · have := of_decide_eq_true z.2
        omega
    refine L2.wp_if_neg h1 (wpAny_bind ?_)
    have h2 : ¬ ((!t.led && decide (es.size > 1)) = true) := fun z => by
      rw [hled] at z
      exact Bool.false_ne_true (Bool.and_eq_true_iff.mp z).1
    exact L2.wp_if_neg h2 (wpAny_pure (wpAny_pure (k es (List.Perm.refl _))))
theorem quiet_of {es : Array (Int × Value)} (h : ElemsOf knd es.toList) : ∀ e ∈ es.toList, ∀ r, e.2 ≠ Value.ref r := fun e he r z => by
  have := (h e he).2
  rw [z] at this
  cases this
theorem forIn_still {α β : Type} : ∀ {l : List α} {f : α → β → Sem (ForInStep β)} {c : β}, (∀ x ∈ l, f x c = pure (.yield c)) → forIn l c f = pure c
  | [], _, _, _ => by rw [List.forIn_nil]
  | x :: l, f, c, h => by
    rw [List.forIn_cons, h x List.mem_cons_self, pure_bind]
    exact forIn_still fun y hy => h y (List.mem_cons_of_mem _ hy)
theorem sets_quiet {Q : Bool → Shared → Prop} {o o' : Obj} {es es' : Array (Int × Value)} {ep ep' : Nat} {t t' : SetTable} (ho : s.heap.get? b = some o) (hd : o.data = .set es ep t) (hf : t.fits es.size = true) (h1 : ∀ e ∈ es.toList, ∀ r, e.2 ≠ Value.ref r)
    (ho' : s.heap.get? a = some o') (hd' : o'.data = .set es' ep' t') (hf' : t'.fits es'.size = true) (h2 : ∀ e ∈ es'.toList, ∀ r, e.2 ≠ Value.ref r) (k : Q true s) : wpAny (model prog w) A (setsQuiet [b, a]) Q E s := by
  unfold setsQuiet setEntries
  simp only [bind_assoc, pure_bind]
  have inner : ∀ {es : Array (Int × Value)}, (∀ e ∈ es.toList, ∀ r, e.2 ≠ Value.ref r) → ∀ {f : Int × Value → Option Bool × Unit → Sem (ForInStep (Option Bool × Unit))}, (∀ e, (∀ r, e.2 ≠ Value.ref r) → f e (none, ()) = pure (.yield (none, ()))) → forIn es (none, ()) f = pure (none, ()) := fun {es} h {f} hf => by
    rw [← Array.forIn_toList]
    exact forIn_still fun e he => hf e (h e he)
  have hy : ∀ (e : Int × Value), (∀ r, e.2 ≠ Value.ref r) → (match e.2 with
      | Value.ref a => do
        let __do_lift ← specialOf e.2 (Str.ofString "__eq__")
        if (__do_lift != some (Value.builtin "object.__eq__")) = true then pure (ForInStep.done (some false, ()))
          else pure (ForInStep.yield (none, ()))
      | x => (pure (ForInStep.yield (none, ())) : Sem (ForInStep (Option Bool × Unit)))) = pure (ForInStep.yield (none, ())) := fun e he => by
    cases h : e.2 with
    | ref r => exact absurd h (he r)
    | _ => rfl
  refine wpAny_bind ?_
  rw [List.forIn_cons]
  refine wpAny_bind (wpAny_bind (wpAny_setState_of ho hd hf ?_))
  dsimp only
  rw [inner h1 fun e he => hy e he]
  refine wpAny_bind (wpAny_pure (wpAny_pure ?_))
  dsimp only
  rw [List.forIn_cons]
  refine wpAny_bind (wpAny_bind (wpAny_setState_of ho' hd' hf' ?_))
  dsimp only
  rw [inner h2 fun e he => hy e he]
  refine wpAny_bind (wpAny_pure (wpAny_pure ?_))
  dsimp only
  rw [List.forIn_nil]
  exact wpAny_pure (wpAny_pure k)
theorem walk_unseen {Q : Array (Int × Value) → Shared → Prop} {o : Obj} {es : Array (Int × Value)} {ep : Nat} {t : SetTable} (ho : s.heap.get? b = some o) (hd : o.data = .set es ep t) (g : GoodT knd S' n' es t) (R : TSet knd s.heap a S n) (hne : b ≠ a)
    (k : ∀ h' (ys : Array (Int × Value)), Heap.SameBut a s.heap h' → TSet knd h' a S n → ys.toList.Perm es.toList → Q ys { s with heap := h' }) : wpAny (model prog w) A (setWalkUnseen b [a] (some a)) Q E s := by
  obtain ⟨hel, hmem, hbd, hf, hn, hr, hl⟩ := id g
  unfold setWalkUnseen
  refine wpAny_bind (wpAny_setState_of ho hd hf ?_)
  dsimp only
  refine wpAny_bind (L2.wpAny_byText ?_)
  by_cases c : (w.params.followText "set-order" || (t.led && t.plain) || decide (es.size ≤ 1)) = true
  · rw [if_pos c]
    refine set_walk ho hd g ?_ fun ys hp => k s.heap ys (Heap.SameBut.refl _ _) R hp
    rw [Bool.or_eq_true, Bool.or_eq_true, Bool.and_eq_true] at c
    rcases c with (c | c) | c
    · exact .inl c
    · exact .inr (.inl c.2)
    · exact .inr (.inr (of_decide_eq_true c))
  · rw [if_neg c]
    have hbt : w.params.followText "set-order" = false := by
      cases z : w.params.followText "set-order" with
      | false => rfl
      | true => rw [z] at c; exact absurd rfl c
    have hled : t.led = true := hl.resolve_left (by rw [hbt]; exact Bool.false_ne_true)
    obtain ⟨o', es', ep', t', ho', hex', hd', g'⟩ := id R
    refine wpAny_bind (sets_quiet ho hd hf (quiet_of hel) ho' hd' g'.2.2.2.1 (quiet_of g'.1) ?_)
    rw [if_neg (by simp)]
    refine wpAny_bind (wpAny_rule (wpAny_bind (wpAny_setState_of ho' hd' g'.2.2.2.1 ?_)))
    dsimp only
    split
    · have g2 : GoodT knd S n es' { t' with led := t'.led && t.led, plain := t'.plain && t.plain } := g'.perm (List.Perm.refl _) g'.2.2.2.1 g'.2.2.2.2.2.1 fun z => by rw [z, hled]; rfl
      refine wpAny_bind (wpAny_storeSet_of ho' hd' ?_ (fits_of_scanBound g2.2.2.1))
      exact wpAny_pure (k _ es (Heap.SameBut.update s.heap a _) (tset_store ho' hex' hd' g2).2 (List.Perm.refl _))
    · exact wpAny_pure (k s.heap es (Heap.SameBut.refl _ _) R (List.Perm.refl _))
end

/-! ### a set takes another one's keys -/
section
variable {prog : Program} {w : World} {κ : Type} [DecidableEq κ] {knd : KeyKind prog w κ} {A : Around} {E : Value → Shared → Prop} {s : Shared} {a b : Addr} {S S' : κ → Bool} {n n' : Nat}
theorem any_is {es : List (Int × Value)} (hm : ∀ k, S' k = true ↔ ∃ e ∈ es, knd.is k e.2 = true) {ys : List (Int × Value)} (p : ys.Perm es) (j : κ) : (ys.any fun e => knd.is j e.2) = S' j := by
  rw [Bool.eq_iff_iff, List.any_eq_true, hm]
  exact ⟨fun ⟨e, h1, h2⟩ => ⟨e, p.mem_iff.mp h1, h2⟩, fun ⟨e, h1, h2⟩ => ⟨e, p.mem_iff.mpr h1, h2⟩⟩
theorem merge_more {each : Sem Unit} {Q : Unit → Shared → Prop} {o : Obj} {es : Array (Int × Value)} {ep : Nat} {t : SetTable} (ho : s.heap.get? b = some o) (hd : o.data = .set es ep t) (g : GoodT knd S' n' es t) (R : TSet knd s.heap a S n) (hne : b ≠ a) (h1 : 1 ≤ n) (hb : (n + n') * 2 < 2048)
    (he : ∀ (s1 : Shared) (Q1 : Unit → Shared → Prop), s1.heap.get? b = some o → Q1 () s1 → wpAny (model prog w) A each Q1 E s1)
    (k : ∀ h' m, Heap.SameBut a s.heap h' → m ≤ n + n' → TSet knd h' a (fun j => S j || S' j) m → Q () { s with heap := h' }) : wpAny (model prog w) A (setMerge a b each) Q E s := by
  obtain ⟨hel, hmem, hbd, hf, hn, hr, hl⟩ := id g
  unfold setMerge
  rw [if_neg (by simpa using fun z => hne z.symm)]
  refine wpAny_bind (wpAny_setState_of ho hd hf ?_)
  dsimp only
  split
  · rename_i c
    have h0 : es = #[] := Array.isEmpty_iff.mp c
    refine wpAny_pure (k s.heap n (Heap.SameBut.refl _ _) (by omega) (R.cast fun j => ?_))
    have : S' j = false := by
      cases z : S' j with
      | false => rfl
      | true =>
        obtain ⟨e, h, _⟩ := (hmem j).mp z
        rw [h0] at h
        simp at h
    rw [this, Bool.or_false]
  refine wpAny_bind (tset_room R (by rw [hn]; exact hb) fun hp1 sb1 R1 => ?_)
  have ho1 : hp1.get? b = some o := (sb1.2 b hne).trans ho
  obtain ⟨oa, ea, epa, ta, hoa, hexa, hda, ga⟩ := id R1
  refine wpAny_bind (wpAny_setState_of (s := { s with heap := hp1 }) hoa hda ga.2.2.2.1 ?_)
  dsimp only
  have hroad : ta.road t = .oneByOne := by
    unfold SetTable.road
    rw [if_pos]
    have hfa := ga.2.2.2.1
    unfold SetTable.fits at hfa
    rw [Bool.and_eq_true, beq_iff_eq] at hfa
    have h5 := ga.2.2.2.2.1
    show (ta.place.size + ta.dummies.size != 0) = true
    rw [bne_iff_ne]
    have h6 := hfa.1
    omega
  rw [hroad]
  dsimp only
  refine wpAny_bind (walk_unseen (s := { s with heap := hp1 }) ho1 hd g R1 hne fun hp2 ys sb2 R2 hp => ?_)
  have ho2 : hp2.get? b = some o := (sb2.2 b hne).trans ho1
  have sb02 := sb1.trans sb2
  refine wpAny_bind ?_
  rw [← Array.forIn_toList]
  have hlen : ys.toList.length = n' := by rw [hp.length_eq, Array.length_toList, hn]
  refine wpAny_forIn_list _
    (fun rest _ s' => ∃ h' m done, s' = { s with heap := h' } ∧ ys.toList = done ++ rest ∧ Heap.SameBut a s.heap h' ∧ m ≤ n + done.length ∧ TSet knd h' a (fun j => S j || done.any fun e => knd.is j e.2) m)
    _ ?_ ?_ _ _ ⟨hp2, n, [], rfl, rfl, sb02, Nat.le_refl _, R2.cast fun j => by simp⟩
  · rintro x rest u s' ⟨h', m, done, rfl, hys, sb, hm, R'⟩
    have hx : x ∈ es.toList := hp.mem_iff.mp (by rw [hys]; exact List.mem_append_right _ List.mem_cons_self)
    obtain ⟨⟨kk, k1, k2⟩, k3⟩ := hel x hx
    have hdl : done.length + (rest.length + 1) = n' := by
      rw [← hlen, hys, List.length_append, List.length_cons]
    have ho' : h'.get? b = some o := (sb.2 b hne).trans ho
    rw [k2]
    refine wpAny_bind (wpAny_holding (tset_add (s := { s with heap := h' }) k1 k3 R' (by show m + 1 < 4096; omega) fun bb h'' m' sb' hm' R'' => ?_))
    have ho'' : h''.get? b = some o := (sb'.2 b hne).trans ho'
    refine wpAny_bind (he _ _ ho'' ?_)
    refine wpAny_bind (wpAny_setState_of (s := { s with heap := h'' }) ho'' hd hf ?_)
    dsimp only
    rw [if_neg (by simp)]
    refine wpAny_pure ⟨h'', m', done ++ [x], rfl, by rw [hys, List.append_assoc]; rfl, sb.trans sb', by rw [List.length_append]; show m' ≤ n + (done.length + 1); omega, R''.cast fun j => ?_⟩
    have hj : knd.is j x.2 = decide (j = kk) := KeyKind.is_eq_decide k1 j
    rw [List.any_append, List.any_cons, List.any_nil, Bool.or_false, hj, Bool.or_assoc]
  · rintro u s' ⟨h', m, done, rfl, hys, sb, hm, R'⟩
    rw [List.append_nil] at hys
    subst hys
    exact wpAny_pure (k h' m sb (by omega) (R'.cast fun j => by rw [any_is hmem hp]))
/-- a new set -/
def FreshT (w : World) (h : Heap) (a : Addr) : Prop := ∃ o ep led, h.get? a = some o ∧ o.ExactSet ∧ o.data = .set #[] ep (.fresh 0 0 led) ∧ (w.params.followText "set-order" = true ∨ led = true)
theorem good_fresh {led : Bool} (h : w.params.followText "set-order" = true ∨ led = true) : GoodT knd (fun _ => false) 0 #[] (.fresh 0 0 led) :=
  ⟨(fun e he => by simp at he), (fun k => by simp), (by decide), (by rfl), rfl, List.Pairwise.nil, h⟩
theorem FreshT.tset {h : Heap} (f : FreshT w h a) : TSet knd h a (fun _ => false) 0 := let ⟨o, ep, led, h1, h2, h3, h4⟩ := f; ⟨o, #[], ep, _, h1, h2, h3, good_fresh h4⟩
theorem room_fresh {more : Nat} {Q : Unit → Shared → Prop} (F : FreshT w s.heap a) (hb : more * 2 < 2048)
    (k : ∀ h' ob ea eb tb, Heap.SameBut a s.heap h' → h'.get? a = some ob → ob.ExactSet → ob.data = .set ea eb tb → GoodT knd (fun _ => false) 0 ea tb → tb.dummies = #[] → goodN (tb.mask + 1) = true → more ≤ tb.mask → Q () { s with heap := h' }) : wpAny (model prog w) A (setRoomFor a more) Q E s := by
  obtain ⟨o, ep, led, ho, hex, hd, hl⟩ := F
  have g : GoodT knd (fun _ => false) 0 #[] (.fresh 0 0 led) := good_fresh hl
  unfold setRoomFor
  refine wpAny_bind (wpAny_setState_of ho hd g.2.2.2.1 ?_)
  dsimp only
  unfold SetTable.roomFor
  by_cases c : ((SetTable.fresh 0 0 led).fill + more) * 5 ≥ (SetTable.fresh 0 0 led).mask * 3
  · rw [if_pos c]
    have e : ((SetTable.fresh 0 0 led).place.size + more) * 2 = more * 2 := by show (0 + more) * 2 = _; omega
    rw [e]
    dsimp only
    obtain ⟨a1, a2, a3⟩ := above_good hb
    exact set_relay ho hex hd g (by omega) hb fun h' es' t' sb hg g' hm hdm => k h' _ es' (ep + 1) t' sb hg hex rfl g' hdm (by rw [hm]; exact a1) (by rw [hm]; omega)
  · rw [if_neg c]
    have c' : ¬ ((0 + 0 + more) * 5 ≥ 7 * 3) := c
    exact wpAny_pure (k s.heap o #[] ep _ (Heap.SameBut.refl _ _) ho hex hd g rfl (good_sizes 8 (by decide)) (by show more ≤ 7; omega))
theorem merge_fresh {each : Sem Unit} {Q : Unit → Shared → Prop} {o : Obj} {es : Array (Int × Value)} {ep : Nat} {t : SetTable} (ho : s.heap.get? b = some o) (hd : o.data = .set es ep t) (g : GoodT knd S' n' es t) (F : FreshT w s.heap a) (hne : b ≠ a) (hb : n' * 2 < 2048)
    (k : ∀ h', Heap.SameBut a s.heap h' → TSet knd h' a S' n' → (n' = 0 → FreshT w h' a) → Q () { s with heap := h' }) : wpAny (model prog w) A (setMerge a b each) Q E s := by
  obtain ⟨hel, hmem, hbd, hf, hn, hr, hl⟩ := id g
  unfold setMerge
  rw [if_neg (by simpa using fun z => hne z.symm)]
  refine wpAny_bind (wpAny_setState_of ho hd hf ?_)
  dsimp only
  split
  · rename_i c
    have h0 : es = #[] := Array.isEmpty_iff.mp c
    have hn0 : n' = 0 := by rw [← hn, h0]; rfl
    refine wpAny_pure (k s.heap (Heap.SameBut.refl _ _) ?_ fun _ => F)
    rw [hn0]
    refine (F.tset (knd := knd)).cast fun j => ?_
    cases z : S' j with
    | false => rfl
    | true =>
      obtain ⟨e, h, _⟩ := (hmem j).mp z
      rw [h0] at h
      simp at h
  rename_i c
  have hpos : 0 < es.size := Nat.pos_of_ne_zero fun z => c (by rw [Array.isEmpty_iff]; exact Array.eq_empty_of_size_eq_zero z)
  refine wpAny_bind (room_fresh (knd := knd) F (by rw [hn]; exact hb) fun hp ob ea eb tb sb1 h1 h2 h3 gd hdm hgood hle => ?_)
  refine wpAny_bind (wpAny_setState_of (s := { s with heap := hp }) h1 h3 gd.2.2.2.1 ?_)
  dsimp only
  have hfill : (tb.fill != 0) = false := by
    have hfa := gd.2.2.2.1
    unfold SetTable.fits at hfa
    rw [Bool.and_eq_true, beq_iff_eq] at hfa
    have h5 := gd.2.2.2.2.1
    show (tb.place.size + tb.dummies.size != 0) = false
    rw [hdm, hfa.1, h5]
    rfl
  have hled : w.params.followText "set-order" = true ∨ (tb.led && t.led) = true := by
    rcases hl with h | h
    · exact .inl h
    · rcases gd.2.2.2.2.2.2 with h' | h'
      · exact .inl h'
      · exact .inr (by rw [h, h']; rfl)
  have fin : ∀ (es2 : Array (Int × Value)) (t2 : SetTable), GoodT knd S' n' es2 t2 → wpAny (model prog w) A (storeSet a es2 t2) Q E { s with heap := hp } := fun es2 t2 g2 => by
    refine wpAny_storeSet_of (s := { s with heap := hp }) h1 h3 ?_ (fits_of_scanBound g2.2.2.1)
    refine k _ (sb1.trans (Heap.SameBut.update hp a _)) (tset_store h1 h2 h3 g2).2 fun z => ?_
    omega
  cases hroad : tb.road t with
  | oneByOne =>
    unfold SetTable.road at hroad
    rw [if_neg (by rw [hfill]; exact Bool.false_ne_true)] at hroad
    split at hroad <;> cases hroad
  | slotForSlot =>
    dsimp only
    exact fin es _ ⟨hel, hmem, hbd, hf, hn, hr, hled⟩
  | clean =>
    dsimp only
    obtain ⟨t', order, e1, e2, e3, e4, e5, e6, e7, e8, e9⟩ := laid_ok (mask := tb.mask) (finger := tb.finger) (moves := tb.moves) (led := tb.led && t.led) (plain := tb.plain && t.plain) (hs := es.map (·.1)) hgood (by rw [Array.size_map]; exact hle)
    rw [Array.size_map] at e2 e4
    have hp' := order_perm (es := es) e2
    have hz : (order.filterMap (es[·]?)).size = es.size := by rw [← Array.length_toList, hp'.length_eq, Array.length_toList]
    rw [e1]
    refine wpAny_bind ?_
    show wpAny _ _ (@ite (Sem (Array (Int × Value) × SetTable)) (((order.filterMap (es[·]?)).size != es.size) = true) _ _ _) _ _ _
    rw [if_neg (by rw [hz]; simp)]
    refine wpAny_pure (fin _ _ ⟨hel.perm hp', fun j => (hmem j).trans ⟨fun ⟨e, he, q⟩ => ⟨e, hp'.mem_iff.mpr he, q⟩, fun ⟨e, he, q⟩ => ⟨e, hp'.mem_iff.mp he, q⟩⟩, by rw [hz]; exact hbd, ?_, by rw [hz]; exact hn, e9, by rw [e7]; exact hled⟩)
    unfold SetTable.fits SetTable.fill
    rw [e4, hz, e5, e3, Bool.and_eq_true, beq_iff_eq, decide_eq_true_eq]
    exact ⟨rfl, by show es.size + 0 ≤ _; omega⟩
end

/-! ### the union of two sets -/
section
variable {prog : Program} {w : World} {κ : Type} [DecidableEq κ] {knd : KeyKind prog w κ} {A : Around} {E : Value → Shared → Prop} {s : Shared} {a b : Addr} {S S' : κ → Bool} {n n' : Nat}
theorem new_set {Q : Value → Shared → Prop} (k : FreshT w (s.heap.push { cls := .type "set", dict := none, data := .set #[] 0 (.fresh 0 0 (!w.params.followText "set-order")) }) s.heap.objs.size →
    Q (.ref s.heap.objs.size) { s with heap := s.heap.push { cls := .type "set", dict := none, data := .set #[] 0 (.fresh 0 0 (!w.params.followText "set-order")) } }) : wpAny (model prog w) A (newSet (.type "set")) Q E s := by
  unfold newSet
  refine wpAny_bind (L2.wpAny_byText ?_)
  dsimp only
  refine wpAny_newObj_type ?_
  refine k ⟨_, 0, _, Heap.get?_push_size _ rfl, ⟨rfl, rfl, rfl⟩, rfl, ?_⟩
  cases w.params.followText "set-order"
  · exact .inr rfl
  · exact .inl rfl
theorem copy_of {Q : Value → Shared → Prop} {o : Obj} {es : Array (Int × Value)} {ep : Nat} {t : SetTable} (ho : s.heap.get? b = some o) (hex : o.ExactSet) (hd : o.data = .set es ep t) (g : GoodT knd S' n' es t) (hb : n' * 2 < 2048)
    (k : ∀ h', (∀ c u, s.heap.get? c = some u → h'.get? c = some u) → TSet knd h' s.heap.objs.size S' n' → (n' = 0 → FreshT w h' s.heap.objs.size) → Q (.ref s.heap.objs.size) { s with heap := h' }) : wpAny (model prog w) A (Builtin.Frozenset.copyOf b) Q E s := by
  have hT : s.TypeIs (.ref b) "set" := ⟨o, ho, hex.1⟩
  have hlt : b < s.heap.objs.size := Heap.lt_size ho
  unfold Builtin.Frozenset.copyOf Builtin.Frozenset.baseOf
  refine wpAny_bind (wpAny_bind (wpAny_isInstance hT sub_set_self ?_))
  rw [if_pos rfl]
  refine wpAny_pure (wpAny_bind (new_set fun F => ?_))
  unfold Builtin.Frozenset.addrOf
  refine wpAny_bind (wpAny_pure ?_)
  have ho1 := Heap.get?_push_of_some { cls := .type "set", dict := none, data := .set #[] 0 (.fresh 0 0 (!w.params.followText "set-order")) } ho
  refine wpAny_bind (merge_fresh (s := { s with heap := s.heap.push { cls := .type "set", dict := none, data := .set #[] 0 (.fresh 0 0 (!w.params.followText "set-order")) } }) ho1 hd g F (Nat.ne_of_lt hlt) hb fun h' sb R f0 => ?_)
  exact wpAny_pure (k h' (fun c u e => (sb.2 c (Nat.ne_of_lt (Heap.lt_size e))).trans (Heap.get?_push_of_some _ e)) R f0)
theorem unchanged_at {nm : String} {o : Obj} {es : Array (Int × Value)} {ep : Nat} {t : SetTable} (hd : o.data = .set es ep t) (hf : t.fits es.size = true) (s1 : Shared) (Q1 : Unit → Shared → Prop) (ho : s1.heap.get? b = some o) (k : Q1 () s1) : wpAny (model prog w) A (Builtin.Frozenset.unchanged nm b ep) Q1 E s1 := by
  unfold Builtin.Frozenset.unchanged
  refine wpAny_bind (wpAny_setEpoch_of ho hd hf ?_)
  rw [if_neg (by simp)]
  exact wpAny_pure k
theorem upd_set {nm : String} {Q : Unit → Shared → Prop} {o : Obj} {es : Array (Int × Value)} {ep : Nat} {t : SetTable} (ho : s.heap.get? b = some o) (hex : o.ExactSet) (hd : o.data = .set es ep t) (g : GoodT knd S' n' es t) (R : TSet knd s.heap a S n) (f0 : n = 0 → FreshT w s.heap a) (hne : b ≠ a) (hb : (n + n') * 2 < 2048)
    (k : ∀ h' m, Heap.SameBut a s.heap h' → m ≤ n + n' → TSet knd h' a (fun j => S j || S' j) m → Q () { s with heap := h' }) : wpAny (model prog w) A (Builtin.Frozenset.updateFrom nm a (.ref b)) Q E s := by
  have hT : s.TypeIs (.ref b) "set" := ⟨o, ho, hex.1⟩
  have hf := g.2.2.2.1
  unfold Builtin.Frozenset.updateFrom
  refine wpAny_bind (any_set (b := true) hT sub_set_self (fun z => by cases z) ?_)
  rw [if_pos rfl]
  unfold Builtin.Frozenset.addrOf Builtin.Frozenset.merge
  refine wpAny_bind (wpAny_pure (wpAny_bind (wpAny_setEpoch_of ho hd hf ?_)))
  by_cases c : n = 0
  · refine merge_fresh (knd := knd) ho hd g (f0 c) hne (by omega) fun h' sb R' _ => k h' n' sb (by omega) (R'.cast fun j => ?_)
    obtain ⟨_, ea, _, _, _, _, _, ga⟩ := R
    have : S j = false := by
      cases z : S j with
      | false => rfl
      | true =>
        obtain ⟨e, h, _⟩ := (ga.2.1 j).mp z
        have h0 : ea = #[] := Array.eq_empty_of_size_eq_zero (by rw [ga.2.2.2.2.1, c])
        rw [h0] at h
        simp at h
    rw [this, Bool.false_or]
  · exact merge_more ho hd g R hne (by omega) hb (fun s1 Q1 h1 h2 => unchanged_at hd hf s1 Q1 h1 h2) k
end

/-! ### set(d), s | t, sorted(s) -/
theorem entry_or_s : entryFor table "set.__or__" = some Builtin.«frozenset.__or__» :=
  entryFor_alias (id' := "frozenset.__or__") (by kernel_rfl) rfl (by decide +kernel) (by kernel_rfl)
theorem tn_set : typeName (.type "set") = pure "set" := by
  unfold typeName
  rw [find?_eq_fast]
  kernel_rfl
section
variable {prog : Program} {w : World} {κ : Type} [DecidableEq κ] {knd : KeyKind prog w κ} {A : Around} {E : Value → Shared → Prop} {s : Shared} {l r d : Addr} {S S' : κ → Bool} {n n' : Nat}
theorem TSet.typeIs {S : κ → Bool} (R : TSet knd s.heap l S n) : s.TypeIs (.ref l) "set" := let ⟨o, _, _, _, h, x, _⟩ := R; ⟨o, h, x.1⟩
theorem TSet.at {h h' : Heap} {S : κ → Bool} (R : TSet knd h l S n) (k : ∀ o, h.get? l = some o → h'.get? l = some o) : TSet knd h' l S n := let ⟨o, es, ep, t, e, x⟩ := R; ⟨o, es, ep, t, k o e, x⟩
theorem or_sets {Q : Value → Shared → Prop} (L : TSet knd s.heap l S n) (R : TSet knd s.heap r S' n') (hne : r ≠ l) (hb : (n + n') * 2 < 2048)
    (k : ∀ h' m, (∀ c u, s.heap.get? c = some u → h'.get? c = some u) → m ≤ n + n' → TSet knd h' s.heap.objs.size (fun j => S j || S' j) m → Q (.ref s.heap.objs.size) { s with heap := h' }) :
    wpAny (model prog w) A (binaryOp .BitOr (.ref l) (.ref r)) Q E s := by
  obtain ⟨ol, el, epl, tl, hol, hexl, hdl, gl⟩ := id L
  obtain ⟨or, er, epr, tr, hor, hexr, hdr, gr⟩ := id R
  refine wpAny_binaryOp_same (op := .BitOr) L.typeIs R.typeIs F.fills_set_or F.slot_set_or (wpAny_call_entry F.slot_set_or L.typeIs entry_or_s ?_ (F.args_set_or_2 _ _))
  show wpAny _ _ ((Builtin.Frozenset.isAnySet (.ref l) <&&> Builtin.Frozenset.isAnySet (.ref r)) >>= _) _ _ s
  unfold andM
  refine wpAny_bind (wpAny_bind (any_set L.typeIs (b := true) sub_set_self (fun z => by cases z) (any_set R.typeIs (b := true) sub_set_self (fun z => by cases z) ?_)))
  refine L2.wp_if_neg (by simp) ?_
  refine wpAny_bind (m := Builtin.Frozenset.addrOf (.ref l)) (wpAny_pure ?_)
  refine wpAny_bind ?_
  show wpAny _ _ (Builtin.Frozenset.copyOf l >>= _) _ _ s
  refine wpAny_bind (copy_of hol hexl hdl gl (by omega) fun h' hk T f0 => ?_)
  refine L2.wp_if_pos (by simpa using hne) ?_
  refine wpAny_bind (m := Builtin.Frozenset.addrOf (.ref s.heap.objs.size)) (wpAny_pure (wpAny_bind (wpAny_holding ?_)))
  refine upd_set (s := { s with heap := h' }) (hk r or hor) hexr hdr gr T f0 (Nat.ne_of_lt (Heap.lt_size hor)) hb fun h2 m sb hm T2 => ?_
  refine wpAny_pure (wpAny_pure ⟨_, rfl, (fun z => by cases z), ?_⟩)
  exact k h2 m (fun c u e => (sb.2 c (Nat.ne_of_lt (Heap.lt_size e))).trans (hk c u e)) hm T2
/-- the set of a dict's keys -/
theorem init_dict {od : Obj} {es : Array DictEntry} {ep : Nat} {R : Fin → Shared → Prop} {E : Value → Shared → Prop} (T : TSet knd s.heap l (fun _ => false) 0) (f : FreshT w s.heap l) (hne : d ≠ l) (lo : (d == sysModules) = false) (hod : s.heap.get? d = some od) (hc : od.cls = .type "dict") (hdd : od.data = .dict es ep)
    (hk : ∀ e ∈ es.toList, ∃ k, knd.is k e.key = true ∧ e.hash = knd.hash k ∧ e.key.scannable = true) (hb : es.size * 2 < 2048)
    (k : ∀ h' m, Heap.SameBut l s.heap h' → m ≤ es.size → TSet knd h' l (fun j => es.toList.any fun e => knd.is j e.key) m → R (.done (.ret .none)) { s with heap := h' }) :
    wpAny (model prog w) A (Builtin.«set.__init__» ⟨[.ref l, .ref d], []⟩) R E s := by
  unfold Builtin.«set.__init__» noKeywords
  obtain ⟨o, ep0, led, ho, hex, hd, _⟩ := f
  have hf : (SetTable.fresh 0 0 led).fits (#[] : Array (Int × Value)).size = true := rfl
  have hT : s.TypeIs (.ref l) "set" := ⟨o, ho, hex.1⟩
  refine wpAny_bind (L2.wp_if_pos (by rfl) (wpAny_pure ?_))
  refine wpAny_bind (m := typeNameOfCut 200 (.ref l)) ?_
  have step : ∀ t : String, wpAny (model prog w) A (do
      checkCount t 0 1 1
      let a ← Builtin.Frozenset.addrOf (.ref l)
      if (← setUsed a) = true then Builtin.Frozenset.clearAll a
      Builtin.Frozenset.updateFrom "set.__init__" a (.ref d)
      ret .none) R E s := fun t => by
    refine wpAny_bind (m := checkCount t 0 1 1) (wpAny_pure (wpAny_bind (m := Builtin.Frozenset.addrOf (.ref l)) (wpAny_pure (wpAny_bind ?_))))
    unfold setUsed
    refine wpAny_bind (wpAny_setState_of ho hd hf (wpAny_pure ?_))
    refine L2.wp_if_neg (by show ¬ ((0 : Nat) != 0) = true; decide) ?_
    refine wpAny_bind (upd_dict T hne lo hod hc hdd hk (by omega) fun h' m sb hm T' => ?_)
    exact wpAny_pure (k h' m sb (by omega) (T'.cast fun j => by rw [Bool.false_or]))
  unfold typeNameOfCut shownTypeOf
  refine wpAny_bind (wpAny_bind (wpAny_typeOf hT ?_))
  refine L2.wp_if_neg (by decide) (wpAny_pure ?_)
  rw [show typeNameCut 200 (.type "set") = typeName (.type "set") from rfl, tn_set]
  exact wpAny_pure (step "set")
set_option maxHeartbeats 1600000 in
theorem call_set_dict {od : Obj} {es : Array DictEntry} {ep : Nat} {Q : Value → Shared → Prop} (lo : (d == sysModules) = false) (hod : s.heap.get? d = some od) (hc : od.cls = .type "dict") (hdd : od.data = .dict es ep)
    (hk : ∀ e ∈ es.toList, ∃ k, knd.is k e.key = true ∧ e.hash = knd.hash k ∧ e.key.scannable = true) (hb : es.size * 2 < 2048)
    (k : ∀ h' m, (∀ c u, s.heap.get? c = some u → h'.get? c = some u) → m ≤ es.size → TSet knd h' s.heap.objs.size (fun j => es.toList.any fun e => knd.is j e.key) m → Q (.ref s.heap.objs.size) { s with heap := h' }) :
    wpAny (model prog w) A (call (.type "set") [.ref d]) Q E s := by
  have ⟨c, tl, hmro⟩ := F.called_set.mro
  have gMade := F.called_set.made
  have gSub := F.called_set.sub
  refine wpAny_call (codeAny_of_tree (show wpAny _ _ (callAny (.type "set") _) _ _ _ from wpAny_pure ⟨Code.quiet_builtin _ (by decide +kernel), codeAny_builtin F.entry_type_call ?_⟩))
  rw [Around.under_plain (weight_type_call_type "set" [.ref d] []) rfl]
  have gNot := F.called_set.notType
  have gCan := F.called_set.canCreate
  have gChk := F.typeCall_set_1 (.ref d)
  repeat (any_goals (first | assumption | wp_step))
  let s0 : Shared := { s with heap := s.heap.push { cls := .type "set", dict := none, data := .set #[] 0 (.fresh 0 0 (!w.params.followText "set-order")) } }
  refine codeAny_mono (L2.code_set_led1 (.ref d) (E := E) (Q₁ := fun obj s₁ => obj = .ref s.heap.objs.size ∧ s₁ = s0) ⟨rfl, rfl⟩) fun rr s₁ hr => ?_
  cases rr with
  | error e => exact hr
  | ok fl =>
    cases fl with
    | ret obj =>
      obtain ⟨rfl, rfl⟩ := hr
      have fr : FreshT w s0.heap s.heap.objs.size := by
        refine ⟨_, 0, _, Heap.get?_push_size _ rfl, ⟨rfl, rfl, rfl⟩, rfl, ?_⟩
        cases w.params.followText "set-order"
        · exact .inr rfl
        · exact .inl rfl
      have tf : TSet knd s0.heap s.heap.objs.size (fun _ => false) 0 := fr.tset
      have hT : s0.TypeIs (.ref s.heap.objs.size) "set" := tf.typeIs
      have gLook := F.called_set.init.lookup
      have gBind := F.called_set.init.bind (.ref s.heap.objs.size)
      repeat (any_goals (first | assumption | wp_step))
      refine codeAny_mono (codeAny_call_builtin (R := wants (fun x s₂ => x = .none ∧ Q (.ref s.heap.objs.size) s₂) E) F.called_set.init.plain F.entry_set_init (check_set_init_1 hT ?_)) fun r2 s2 hr2 => ?_
      · have hod' : s0.heap.get? d = some od := Heap.get?_push_of_some _ hod
        refine init_dict (s := s0) tf fr (Nat.ne_of_lt (Heap.lt_size hod)) lo hod' hc hdd hk hb fun h' m sb hm T => ⟨rfl, k h' m (fun b u e => ?_) hm T⟩
        exact (sb.2 b (Nat.ne_of_lt (Heap.lt_size e))).trans (Heap.get?_push_of_some _ e)
      · cases r2 with
        | error e => exact hr2
        | ok f2 =>
          cases f2 with
          | ret x =>
            obtain ⟨rfl, q⟩ := hr2
            repeat (any_goals (first | assumption | wp_step))
          | _ => exact hr2.elim
    | _ => exact hr.elim
end

end GC

--CUT inf
set_option Elab.async false
set_option linter.all false
set_option maxRecDepth 100000
set_option maxHeartbeats 4000000
namespace GC
open PySem L2 Evl
/-! ### values told by a predicate, over heaps that only grow -/
abbrev VP := V → Hp → Prop
class Mono (P : VP) : Prop where
  mono : ∀ {v : V} {H H' : Hp}, Ex H H' → P v H → P v H'
def Is (v0 : V) : VP := fun v _ => v = v0
instance {v0 : V} : Mono (Is v0) := ⟨fun _ h => h⟩
/-- a tuple of these values, a list of these values, wherever it stands -/
def Tp (K : PySem.W.Frag) (xs : List V) : VP := fun v H => ∃ p, v = .ref p ∧ SqT K H p xs
def Ls (K : PySem.W.Frag) (xs : List V) : VP := fun v H => ∃ p, v = .ref p ∧ SqL K H p xs
instance {K : PySem.W.Frag} {xs : List V} : Mono (Tp K xs) := ⟨fun e ⟨p, a, b⟩ => ⟨p, a, ex_t e b⟩⟩
instance {K : PySem.W.Frag} {xs : List V} : Mono (Ls K xs) := ⟨fun e ⟨p, a, b⟩ => ⟨p, a, ex_l e b⟩⟩
/-- a new object -/
def Nw (H : Hp) (o : HO) : VP := fun v H2 => ∃ p, v = .ref p ∧ H p = none ∧ H2 p = some o
instance {H : Hp} {o : HO} : Mono (Nw H o) := ⟨fun e ⟨p, a, b, c⟩ => ⟨p, a, b, e p _ c⟩⟩
def EvX (te : TE) (σ : L2.St) (H : Hp) (P : VP) : Prop := ∀ H1, Ex H H1 → ∀ Q : VK, (∀ v H2, Ex H1 H2 → P v H2 → Q v H2) → te σ H1 Q
def EvXA (ta : TA) (σ : L2.St) (H : Hp) (P : List V → Hp → Prop) : Prop := ∀ H1, Ex H H1 → ∀ Q : List V → Hp → Prop, (∀ vs H2, Ex H1 H2 → P vs H2 → Q vs H2) → ta σ H1 Q
def SpX (sp : Sp) (vs : List V) (H : Hp) (P : VP) : Prop := ∀ H1, Ex H H1 → ∀ (Q : VK) (E : XK), (∀ v H2, Ex H1 H2 → P v H2 → Q v H2) → sp vs H1 Q E
def Ret (P : VP) (H : Hp) (Q : VK) : Prop := ∀ v H2, Ex H H2 → P v H2 → Q v H2
/-- a def that changes nothing that stood: its arguments by x, what must hold of them, what is told -/
def SpF {α : Type} (args : α → List V) (Pre : α → Hp → Prop) (Post : α → Hp → VP) : Sp := fun vs H Q _ => ∃ x : α, vs = args x ∧ Pre x H ∧ Ret (Post x H) H Q
section
variable {K : PySem.W.Frag} {σ : L2.St} {H H' : Hp} {ta tb te tx : TE} {t u : TT} {x y z v : V} {P P' R : VP}
theorem sx_of {α : Type} {args : α → List V} {Pre : α → Hp → Prop} {Post : α → Hp → VP} (x : α) (hm : ∀ H1, Ex H H1 → Pre x H1) (hp : ∀ H1 v H2, Ex H H1 → Ex H1 H2 → Post x H1 v H2 → P v H2) : SpX (SpF args Pre Post) (args x) H P :=
  fun H1 e Q _ q => ⟨x, rfl, hm H1 e, fun v H2 e2 h => q v H2 e2 (hp H1 v H2 e e2 h)⟩
theorem sv_of {sp : Sp} {vs : List V} (h : SpX sp vs H (Is v)) : SpV sp vs H v := fun H1 e Q q E => h H1 e Q E fun w H2 e2 hw => by
  cases (show w = v from hw)
  exact q H2 e2
theorem x_ev (h : Ev te σ H v) : EvX te σ H (Is v) := fun H1 e Q q => h H1 e Q fun H2 e2 => q v H2 e2 rfl
theorem ev_x (h : EvX te σ H (Is v)) : Ev te σ H v := fun H1 e Q q => h H1 e Q fun w H2 e2 hw => by
  cases (show w = v from hw)
  exact q H2 e2
theorem x_is (h : Ev te σ H v) (hp : ∀ H1, Ex H H1 → P v H1) : EvX te σ H P := fun H1 e Q q => h H1 e Q fun H2 e2 => q v H2 e2 (hp H2 (e.trans e2))
theorem EvX.mono (e : Ex H H') (h : EvX te σ H P) : EvX te σ H' P := fun H1 a Q q => h H1 (e.trans a) Q q
theorem EvX.imp (h : EvX te σ H P) (hp : ∀ v H1, Ex H H1 → P v H1 → R v H1) : EvX te σ H R := fun H1 e Q q => h H1 e Q fun w H2 e2 hw => q w H2 e2 (hp w H2 (e.trans e2) hw)
theorem x_tup {ta : TA} {vs : List V} (h : EvA ta σ H vs) (hl : vs.length ≤ 100000 := by exact Nat.le_of_ble_eq_true rfl) : EvX (tTup ta) σ H (Nw H (.tup vs)) := fun H1 e Q q =>
  eu_tup h hl H1 e Q fun p H2 hp e2 h2 => q _ H2 e2 ⟨p, rfl, fresh_back e hp, h2⟩
theorem x_lst {ta : TA} {vs : List V} (h : EvA ta σ H vs) (hl : vs.length ≤ 100000 := by exact Nat.le_of_ble_eq_true rfl) : EvX (tLst ta) σ H (Nw H (.lst vs)) := fun H1 e Q q =>
  el_lst h hl H1 e Q fun p H2 hp e2 h2 => q _ H2 e2 ⟨p, rfl, fresh_back e hp, h2⟩
theorem x_dnew : EvX tDNewK σ H (Nw H (.dK [])) := fun H1 e Q q => fun p hp => q _ _ (Ex.new hp) ⟨p, rfl, fresh_back e hp, upd_same⟩
theorem nw_tp {xs : List V} : ∀ v H1, Ex H H1 → Nw H (.tup xs) v H1 → Tp K xs v H1 := fun _ _ _ ⟨p, a, _, c⟩ => ⟨p, a, st_of c⟩
theorem nw_ls {xs : List V} : ∀ v H1, Ex H H1 → Nw H (.lst xs) v H1 → Ls K xs v H1 := fun _ _ _ ⟨p, a, _, c⟩ => ⟨p, a, sq_of c⟩
theorem nw_t {H0 H1 : Hp} {xs : List V} {v : V} : Nw H0 (.tup xs) v H1 → Tp K xs v H1 := fun ⟨p, a, _, c⟩ => ⟨p, a, st_of c⟩
theorem nw_l {H0 H1 : Hp} {xs : List V} {v : V} : Nw H0 (.lst xs) v H1 → Ls K xs v H1 := fun ⟨p, a, _, c⟩ => ⟨p, a, sq_of c⟩
theorem x_tupT {ta : TA} {vs : List V} (h : EvA ta σ H vs) (hl : vs.length ≤ 100000 := by exact Nat.le_of_ble_eq_true rfl) : EvX (tTup ta) σ H (Tp K vs) := (x_tup h hl).imp nw_tp
theorem x_tupM {ta : TA} {vs : List V} (h : EvA ta σ H vs) (hl : vs.length ≤ 100000) : EvX (tTup ta) σ H (Tp K vs) := (x_tup h hl).imp nw_tp
theorem ax_nil : EvXA tNil σ H (fun vs _ => vs = []) := fun H1 _ Q q => q [] H1 (Ex.refl H1) rfl
theorem ax_cons {tr : TA} {PA : List V → Hp → Prop} [Mono P] (h : EvX te σ H P) (hr : EvXA tr σ H PA) : EvXA (tCons te tr) σ H (fun vs H2 => ∃ v r, vs = v :: r ∧ P v H2 ∧ PA r H2) := fun H1 e Q q =>
  h H1 e _ fun v H2 e2 hv => hr H2 (e.trans e2) _ fun r H3 e3 hr' => q _ H3 (e2.trans e3) ⟨v, r, rfl, Mono.mono e3 hv, hr'⟩
theorem x_call {sp : Sp} {dvs : List V} {E : XK} {ta : TA} {PA : List V → Hp → Prop} (h : EvXA ta σ H PA) (hs : ∀ vs H1, Ex H H1 → PA vs H1 → SpX sp (vs ++ dvs) H1 P) : EvX (tCall sp dvs E ta) σ H P := fun H1 e Q q =>
  h H1 e _ fun vs H2 e2 hv => hs vs H2 (e.trans e2) hv H2 (Ex.refl H2) Q E fun v H3 e3 hp => q v H3 (e2.trans e3) hp
theorem x_if {b : Bool} (h : EvT t σ H b) (h1 : b = true → EvX ta σ H P) (h2 : b = false → EvX tb σ H P) : EvX (tIf t ta tb) σ H P := fun H1 e Q q => h H1 e _ fun H2 e2 => by
  cases b with
  | true => exact h1 rfl H2 (e.trans e2) Q fun v H3 e3 hv => q v H3 (e2.trans e3) hv
  | false => exact h2 rfl H2 (e.trans e2) Q fun v H3 e3 hv => q v H3 (e2.trans e3) hv
theorem ev_ifI {b : Bool} {i j : Int} (h : EvT t σ H b) (h1 : Ev ta σ H (.int i)) (h2 : Ev tb σ H (.int j)) : Ev (tIf t ta tb) σ H (.int (if b = true then i else j)) :=
  ev_if h (fun e => by rw [if_pos e]; exact h1) (fun e => by rw [if_neg (by rw [e]; exact Bool.false_ne_true)]; exact h2)
variable {D : Ends} {tu tw tz : TS}
theorem qx_asg {i : Nat} (h : EvX te σ H P) (k : ∀ v H1, Ex H H1 → P v H1 → tz D (σ.set i (some v)) H1) : tSeq (tAsg te (gName i)) tz D σ H := h H (Ex.refl H) _ fun v H1 e hp => k v H1 e hp
theorem sx_asg {i : Nat} (h : EvX te σ H P) (k : ∀ v H1, Ex H H1 → P v H1 → D.nx (σ.set i (some v)) H1) : tAsg te (gName i) D σ H := h H (Ex.refl H) _ fun v H1 e hp => k v H1 e hp
theorem sx_ret (h : EvX te σ H P) (k : ∀ v H1, Ex H H1 → P v H1 → D.rt v H1) : tRet te D σ H := h H (Ex.refl H) _ fun v H1 e hp => k v H1 e hp
end
section
variable {K : PySem.W.Frag} {σ : L2.St} {H H' : Hp} {ta tb te tx : TE} {t u : TT} {x y z v : V} {P P' R : VP}
theorem x_call1 {sp : Sp} {E : XK} {P1 : VP} (h1 : EvX ta σ H P1) (hs : ∀ v1 H1, Ex H H1 → P1 v1 H1 → SpX sp [v1] H1 P) : EvX (tCall sp [] E (tCons ta tNil)) σ H P := fun H1 e Q q =>
  h1 H1 e _ fun v1 H2 e2 p1 => hs v1 H2 (e.trans e2) p1 H2 (Ex.refl H2) Q E fun v H3 e3 hp => q v H3 (e2.trans e3) hp
theorem x_call2 {sp : Sp} {E : XK} {P1 P2 : VP} [Mono P1] (h1 : EvX ta σ H P1) (h2 : EvX tb σ H P2) (hs : ∀ v1 v2 H1, Ex H H1 → P1 v1 H1 → P2 v2 H1 → SpX sp [v1, v2] H1 P) : EvX (tCall sp [] E (tCons ta (tCons tb tNil))) σ H P := fun H1 e Q q =>
  h1 H1 e _ fun v1 H2 e2 p1 => h2 H2 (e.trans e2) _ fun v2 H3 e3 p2 => hs v1 v2 H3 ((e.trans e2).trans e3) (Mono.mono e3 p1) p2 H3 (Ex.refl H3) Q E fun v H4 e4 hp => q v H4 ((e2.trans e3).trans e4) hp
theorem x_varT {i : Nat} {p : Addr} {xs : List V} (h : σ[i]? = some (some (.ref p))) (hq : SqT K H p xs) : EvX (tVar i) σ H (Tp K xs) := x_is (ev_var h) fun _ e => ⟨p, rfl, ex_t e hq⟩
theorem x_varL {i : Nat} {p : Addr} {xs : List V} (h : σ[i]? = some (some (.ref p))) (hq : SqL K H p xs) : EvX (tVar i) σ H (Ls K xs) := x_is (ev_var h) fun _ e => ⟨p, rfl, ex_l e hq⟩
theorem ev_lenT {p : Addr} {xs : List V} (ha : Ev ta σ H (.ref p)) (h : SqT K H p xs) : Ev (tCB (rLenS K) (tCons ta tNil)) σ H (.int (xs.length : Int)) := fun H1 e Q q =>
  ha H1 e _ fun H2 e2 => ⟨p, xs, rfl, Or.inr (ex_t (e.trans e2) h), q H2 e2⟩
def rMin2 : List V → Hp → VK → Prop := fun xs H Q => ∃ i j, xs = [.int i, .int j] ∧ Q (.int (if j < i then j else i)) H
theorem ev_min2 {i j : Int} (ha : Ev ta σ H (.int i)) (hb : Ev tb σ H (.int j)) : Ev (tCB rMin2 (tCons ta (tCons tb tNil))) σ H (.int (if j < i then j else i)) := fun H1 e Q q =>
  ha H1 e _ fun H2 e2 => hb H2 (e.trans e2) _ fun H3 e3 => ⟨i, j, rfl, q H3 (e2.trans e3)⟩
/-- isinstance(x, T) -/
theorem ev_isi {a T : String} {b : Bool} (h : Ev tx σ H x) (hty : ∀ H1, Ex H H1 → TyX K H1 x (.type a)) (hb : kitB a T = some b) : Ev (tCB (rIsi K) (tCons tx (tCons (tC (.ty T)) tNil))) σ H (.bl b) := fun H1 e Q q =>
  h H1 e _ fun H2 e2 => ⟨x, .ty T, .type a, .type T, b, rfl, .ty T, hty H2 (e.trans e2), kit_ty hb, q H2 e2⟩
theorem tyx_tup {H : Hp} {p : Addr} {xs : List V} (h : SqT K H p xs) : TyX K H (.ref p) (.type "tuple") := by
  rcases h with (h | ⟨o, h⟩) | ⟨o, its, n, h1, h2, _⟩
  · exact .base (.tup h)
  · exact .fTuple h
  · exact .kTuple h1 h2
theorem tyx_lst {H : Hp} {p : Addr} {xs : List V} (h : SqL K H p xs) : TyX K H (.ref p) (.type "list") := by
  rcases h with (h | ⟨o, h⟩) | ⟨o, its, n, h1, h2, _⟩
  · exact .base (.lst h)
  · exact .base (.frz h)
  · exact .kList h1 h2
end
section
variable {K : PySem.W.Frag} {H : Hp} {x : V}
theorem rc_lenT {p : Addr} {xs : List V} (h : SqT K H p xs) : RC (rLenS K) [.ref p] H (.int (xs.length : Int)) := fun H1 e _ q => ⟨p, xs, rfl, Or.inr (ex_t e h), q H1 (Ex.refl H1)⟩
theorem rc_lenL {p : Addr} {xs : List V} (h : SqL K H p xs) : RC (rLenS K) [.ref p] H (.int (xs.length : Int)) := fun H1 e _ q => ⟨p, xs, rfl, Or.inl (ex_l e h), q H1 (Ex.refl H1)⟩
def rLenStr : List V → Hp → VK → Prop := fun xs H Q => ∃ z : Str, xs = [.str z] ∧ z.length ≤ sizeLine ∧ Q (.int z.length) H
theorem rc_lenStr {z : Str} (h : z.length ≤ 100000) : RC rLenStr [.str z] H (.int (z.length : Int)) := fun H1 _ _ q => ⟨z, rfl, sz_of h, q H1 (Ex.refl H1)⟩
theorem rc_max2 {i j : Int} : RC rMax2 [.int i, .int j] H (.int (if j > i then j else i)) := fun H1 _ _ q => ⟨i, j, rfl, q H1 (Ex.refl H1)⟩
theorem rc_min2 {i j : Int} : RC rMin2 [.int i, .int j] H (.int (if j < i then j else i)) := fun H1 _ _ q => ⟨i, j, rfl, q H1 (Ex.refl H1)⟩
theorem rc_isi {a T : String} {b : Bool} (hty : ∀ H1, Ex H H1 → TyX K H1 x (.type a)) (hb : kitB a T = some b) : RC (rIsi K) [x, .ty T] H (.bl b) := fun H1 e _ q =>
  ⟨x, .ty T, .type a, .type T, b, rfl, .ty T, hty H1 e, kit_ty hb, q H1 (Ex.refl H1)⟩
end
/-- what stands where a def's name points -/
structure Has (K : PySem.W.Frag) (mg : Str → Option Value) (x : Str) (st : Stmt) (ps : List Str) (f : Addr) (fd : FuncData) : Prop where
  m : mg x = some (.ref f)
  F : Fun K x x st f fd
  b : Binds K fd ps []
def tupInts (o : Obj) (ns : List Int) : Bool := match o.cls, o.data with
  | .type "tuple", .seq its _ => decide (its.size ≤ 1000) && decide (its.toList.map absV = ns.map fun i => some (V.int i))
  | _, _ => false
theorem absV_inv {v : V} {u : Value} (h : absV u = some v) : RelV v u := by
  cases u <;> simp only [absV] at h <;> first | (cases h; done) | (injection h with h; subst h; first | exact rfl | exact ⟨_, rfl⟩)
theorem vals_abs : ∀ {us : List Value} {xs : List V}, us.map absV = xs.map some → Vals xs us
  | [], [], _ => .nil
  | [], _ :: _, h => by cases h
  | _ :: _, [], h => by cases h
  | u :: us, x :: xs, h => by
    rw [List.map_cons, List.map_cons, List.cons.injEq] at h
    exact .cons (absV_inv h.1) (vals_abs h.2)
theorem sqT_written {K : PySem.W.Frag} {H : Hp} {a : Addr} {o : Obj} {ns : List Int} (h : K.lookup a = some o) (t : tupInts o ns = true) : SqT K H a (ns.map V.int) := by
  obtain ⟨cl, dd, dt, sl⟩ := o
  unfold tupInts at t
  split at t
  · rename_i its n e1 e2
    rw [Bool.and_eq_true] at t
    have h1 := of_decide_eq_true t.1
    have h2 := of_decide_eq_true t.2
    refine .inr ⟨_, its, n, h, e1, e2, Nat.le_trans h1 (by decide), vals_abs ?_⟩
    rw [h2, List.map_map]
    rfl
  · cases t
/-! ### steps of my own -/
local macro_rules | `(tactic| walk_at "ex") => `(tactic| first | assumption | exact Ex.refl _ | (apply Ex.trans; rotate_left; assumption; walk_at "ex"))
local macro_rules | `(tactic| walk_at "sv") => `(tactic| assumption)
local macro_rules | `(tactic| walk_at "sq") => `(tactic| first | assumption | (apply ex_t; rotate_left; assumption; walk_at "ex") | (apply ex_l; rotate_left; assumption; walk_at "ex") | (refine st_of ?_; assumption) | (refine sq_of ?_; assumption))
local macro_rules | `(tactic| walk_at "ty") => `(tactic| first | exact fun _ _ => .base (.int _) | exact fun _ _ => .base (.bl _) | exact fun _ _ => .base (.str _) | exact fun _ _ => .base .non | exact fun _ ez => tyx_tup (ex_t ez (by walk_at "sq")) | exact fun _ ez => tyx_lst (ex_l ez (by walk_at "sq")))
local macro_rules | `(tactic| walk_at "pos") => `(tactic| first | (show (0 : Int) < _; decide) | exact ⟨by decide, by decide⟩ | exact ⟨by decide, by decide, by decide⟩ | (show (0 : Int) < _; omega) | (refine ⟨?_, ?_⟩ <;> omega) | (refine Or.inl ⟨?_, ?_⟩ <;> omega) | (refine Or.inr ⟨?_, ?_⟩ <;> omega) | (show (0 : Int) < _; decide +kernel))
local macro_rules | `(tactic| walk_at "rv") => `(tactic| first
  | with_reducible exact rv_I0
  | ((with_reducible apply rv_I); walk_at "pos")
  | ((with_reducible apply rv_eq); exact rfl)
  | ((with_reducible apply rv_ne); exact rfl)
  | ((with_reducible apply rv_ixT); (focus (walk_at "sq")); exact rfl)
  | ((with_reducible apply rv_ixL); (focus (walk_at "sq")); exact rfl))
local macro_rules | `(tactic| walk_at "rc") => `(tactic| first
  | ((with_reducible apply rc_isi (b := true)); (focus (walk_at "ty")); decide +kernel)
  | ((with_reducible apply rc_isi (b := false)); (focus (walk_at "ty")); decide +kernel)
  | (apply rc_lenT; walk_at "sq")
  | (apply rc_lenL; walk_at "sq")
  | exact rc_max2
  | exact rc_min2)
local macro_rules | `(tactic| walk_at "ev") => `(tactic| first
  | ((with_reducible apply ev_var); exact rfl)
  | with_reducible exact ev_c
  | with_reducible exact ea_nil
  | ((with_reducible apply ea_cons) <;> walk_at "ev")
  | ((with_reducible apply ev_op); (focus (walk_at "ev")); (focus (walk_at "ev")); walk_at "rv")
  | ((with_reducible apply ev_cb); (focus (walk_at "ev")); walk_at "rc")
  | ((with_reducible apply et_test); walk_at "ev")
  | ((with_reducible apply et_B); walk_at "ev")
  | ((with_reducible apply et_not); walk_at "ev")
  | ((with_reducible apply ev_notV); walk_at "ev")
  | ((with_reducible apply ev_ifI) <;> walk_at "ev")
  | ((with_reducible apply et_or); (focus (walk_at "ev")); (intro _; walk_at "ev"))
  | ((with_reducible apply et_and); (focus (walk_at "ev")); (intro _; walk_at "ev"))
  | ((with_reducible apply ev_orV); (focus (walk_at "ev")); (intro _; walk_at "ev"))
  | ((with_reducible apply ev_andV); (focus (walk_at "ev")); (intro _; walk_at "ev"))
  | walk_at "xc")
local macro_rules | `(tactic| walk_at "xc") => `(tactic| ((with_reducible apply ev_call); (focus (walk_at "ev")); (focus (walk_at "sv"))))
local macro_rules | `(tactic| walk_at "xv") => `(tactic| first
  | assumption
  | ((with_reducible apply x_tupM); (focus (walk_at "ev")); exact Nat.le_of_ble_eq_true rfl)
  | ((with_reducible apply x_varT); (focus (exact rfl)); walk_at "sq")
  | ((with_reducible apply x_varL); (focus (exact rfl)); walk_at "sq")
  | ((with_reducible apply x_ev); walk_at "ev"))

/-! ### texts by their signs -/
def sg (c : Nat) : Str := ⟨#[c]⟩
def ofL (cs : List Nat) : Str := ⟨cs.toArray⟩
theorem str_ext {a b : Str} (h : a.cps.toList = b.cps.toList) : a = b := by
  cases a; cases b
  congr 1
  exact Array.toList_inj.mp h
theorem ofL_len (cs : List Nat) : (ofL cs).length = cs.length := by show cs.toArray.size = _; simp
theorem ofL_tl (cs : List Nat) : (ofL cs).cps.toList = cs := rfl
theorem ofL_app (a b : List Nat) : ofL a ++ ofL b = ofL (a ++ b) := str_ext (by
  show (a.toArray ++ b.toArray).toList = (a ++ b)
  simp)
theorem ofL_eta (z : Str) : ofL z.cps.toList = z := str_ext rfl
theorem joinL_nil : ∀ ps : List (List Nat), TL.joinL [] ps = ps.flatten
  | [] => rfl
  | [p] => by simp [TL.joinL]
  | p :: q :: r => by
    show p ++ ([] ++ TL.joinL [] (q :: r)) = _
    rw [joinL_nil (q :: r)]
    simp
theorem join_sg (cs : List Nat) : Txt.join (Str.ofString "") (cs.map sg) = ofL cs := by
  rw [TL.join_eq]
  refine str_ext ?_
  show TL.tl (Str.join _ _) = cs
  rw [TL.tl_join]
  have e : TL.tl (Str.ofString "") = [] := by rw [TL.tl_ofString]; rfl
  rw [e, joinL_nil, List.map_map]
  have e2 : (TL.tl ∘ sg) = fun c => [c] := rfl
  rw [e2]
  induction cs with
  | nil => rfl
  | cons c r ih => simp [ih]
theorem sg_len (cs : List Nat) : ((cs.map sg).map (·.length)).sum = cs.length := by
  induction cs with
  | nil => rfl
  | cons c r ih =>
    rw [List.map_cons, List.map_cons, List.sum_cons, ih]
    show 1 + r.length = r.length + 1
    omega
theorem atI_of {α : Type} {xs : List α} {i : Int} {v : α} (h0 : 0 ≤ i) (h : xs[i.toNat]? = some v) : atI xs i = some v := by
  have e0 : ((i.toNat : Nat) : Int) = i := by omega
  rw [← e0]
  exact atI_nat h
theorem atI_in {xs : List Nat} {i : Int} (h0 : 0 ≤ i) (h1 : i < (xs.length : Int)) : atI xs i = some (xs[i.toNat]?.getD 0) := by
  have e0 : ((i.toNat : Nat) : Int) = i := by omega
  have hlt : i.toNat < xs.length := by omega
  rw [← e0]
  refine atI_nat ?_
  rw [e0, List.getElem?_eq_getElem hlt]
  rfl
section
variable {K : PySem.W.Frag} {σ : L2.St} {H H' : Hp} {ta tb tc te tl' to : TE} {x y z w : V} {r r' : R2}
theorem ev_chain {b1 b2 : Bool} (ha : Ev ta σ H x) (hb : Ev tb σ H y) (h1 : RV r x y H (.bl b1)) (hc : b1 = true → Ev tc σ H w) (h2 : b1 = true → RV r' y w H (.bl b2)) : Ev (tChain r r' ta tb tc) σ H (.bl (b1 && b2)) := fun H1 e Q q =>
  ha H1 e _ fun H2 e2 => hb H2 (e.trans e2) _ fun H3 e3 => h1 H3 ((e.trans e2).trans e3) _ fun H4 e4 => ⟨b1, rfl, by
    cases b1 with
    | true =>
      show tc σ H4 _
      exact hc rfl H4 (((e.trans e2).trans e3).trans e4) _ fun H5 e5 => h2 rfl H5 ((((e.trans e2).trans e3).trans e4).trans e5) Q fun H6 e6 => q H6 ((((e2.trans e3).trans e4).trans e5).trans e6)
    | false =>
      show Q (.bl false) H4
      exact q H4 ((e2.trans e3).trans e4)⟩
def rLeStr : R2 := fun x y H Q => ∃ i j, x = .str i ∧ y = .str j ∧ Q (.bl (!decide (j.cps.toList < i.cps.toList))) H
def rNotInS' : R2 := fun x y H Q => ∃ (c : Nat) (z : Str), x = .str ⟨#[c]⟩ ∧ y = .str z ∧ Q (.bl (!decide (c ∈ z.cps.toList))) H
def rAddStr : R2 := fun x y H Q => ∃ i j, x = .str i ∧ y = .str j ∧ i.length + j.length ≤ sizeLine ∧ Q (.str (i ++ j)) H
theorem rv_leStr {i j : Str} : RV rLeStr (.str i) (.str j) H (.bl (!decide (j.cps.toList < i.cps.toList))) := fun H1 _ _ q => ⟨i, j, rfl, rfl, q H1 (Ex.refl H1)⟩
theorem rv_notInS {c : Nat} {z : Str} : RV rNotInS' (.str ⟨#[c]⟩) (.str z) H (.bl (!decide (c ∈ z.cps.toList))) := fun H1 _ _ q => ⟨c, z, rfl, rfl, q H1 (Ex.refl H1)⟩
theorem rv_addStr {i j : Str} (h : i.length + j.length ≤ 100000) : RV rAddStr (.str i) (.str j) H (.str (i ++ j)) := fun H1 _ _ q => ⟨i, j, rfl, rfl, sz_of h, q H1 (Ex.refl H1)⟩
theorem rv_isB {a b : Bool} : RV rIsB (.bl a) (.bl b) H (.bl (decide (a = b))) := fun H1 _ _ q => ⟨a, b, rfl, rfl, q H1 (Ex.refl H1)⟩
theorem rv_notB {a b : Bool} : RV rNotB (.bl a) (.bl b) H (.bl (!decide (a = b))) := fun H1 _ _ q => ⟨a, b, rfl, rfl, q H1 (Ex.refl H1)⟩
theorem et_yes : EvT tYes σ H true := fun H1 _ _ q => q H1 (Ex.refl H1)
/-- sep.join(xs) -/
def rJoin (K : PySem.W.Frag) : V → List V → Hp → VK → Prop := fun x xs H Q => ∃ a p, ∃ ys : List Str, x = .str a ∧ xs = [.ref p] ∧ (SqL K H p (ys.map V.str) ∨ SqT K H p (ys.map V.str)) ∧
      (ys.map (·.length)).sum + ys.length * a.length ≤ 16777216 ∧ Q (.str (Txt.join a ys)) H
theorem x_join {cs : List Nat} (h1 : Ev to σ H (.str (Str.ofString ""))) (h2 : EvX te σ H (Ls K ((cs.map sg).map V.str))) (hl : cs.length ≤ 100000) : Ev (tM1 (rJoin K) to te) σ H (.str (ofL cs)) := fun H1 e Q q =>
  h1 H1 e _ fun H2 e2 => ⟨⟨_, rfl⟩, h2 H2 (e.trans e2) _ fun v H3 e3 ⟨p, hv, hp⟩ => ⟨_, p, cs.map sg, rfl, by rw [hv], .inl hp, by
    have l0 : (Str.ofString "").length = 0 := rfl
    rw [sg_len, l0]
    omega, by
    rw [join_sg]
    exact q H3 (e2.trans e3)⟩⟩
/-- a walk over a text's signs -/
theorem q_forStr {D : Ends} {tu tz : TS} {z : Str} {j : Nat} (h : Ev te σ H (.str z)) (Pv : Nat → L2.St → Hp → Prop) (h0 : ∀ H1, Ex H H1 → Pv 0 σ H1)
    (hs : ∀ i c σ' H', z.cps.toList[i]? = some c → Pv i σ' H' → tu { D with nx := Pv (i + 1), ct := Pv (i + 1), bk := tz D } (σ'.set j (some (.str ⟨#[c]⟩))) H') (hd : ∀ σ' H', Pv z.cps.toList.length σ' H' → tz D σ' H') :
    tSeq (tFor (iStr te) (gName j) tu) tz D σ H := h H (Ex.refl H) _ fun H1 e => ⟨z, rfl, for_it (D := { D with nx := tz D }) (walk_str (z := z)) Pv (h0 H1 e) (fun _ _ _ _ _ => trivial) (fun i x σ' H' H'' hi p y => by
      obtain ⟨rfl, c, hc, rfl⟩ := y
      exact hs i c σ' _ (by rw [← hc]; simp) p) (fun σ' H' p => hd σ' H' (by simpa using p))⟩
/-- [e for c in s] -/
theorem el_lcS {z : Str} {tl : TE} {j : Nat} {vs : List Nat} (v : Nat → V) (h : Ev tl σ H (.str z)) (hz : z.cps.toList.length ≤ 40000) (hw : ∀ x, wipe ((wipe σ vs).set j (some x)) vs = wipe σ vs)
    (he : ∀ (i : Nat) (c : Nat) H1, Ex H H1 → z.cps.toList[i]? = some c → Ev te ((wipe σ vs).set j (some (.str ⟨#[c]⟩))) H1 (v c)) :
    EvL (tLc (iStr tl) (gName j) tYes te vs) σ H (z.cps.toList.map v) := fun H0 e Q q => h H0 e _ fun H1 e1 => ⟨z, rfl, fun Dl hD =>
  lc_it (walk_str (z := z)) (Cw H1 (fun _ => true) (fun i => v (z.cps.toList[i]?.getD 0)) Dl) ⟨hD, Ex.new hD, upd_same⟩ (fun _ _ _ _ => trivial) (fun i x H' H'' hi p y => by
      obtain ⟨rfl, c, hc, rfl⟩ := y
      have hc' : z.cps.toList[i]? = some c := by rw [← hc]; simp
      have hi' : i < z.cps.toList.length := by simpa using hi
      exact ⟨hw _, cw_turn p (by omega) et_yes (fun _ => by
        have := he i c H1 (e.trans e1) hc'
        rw [hc']
        exact this)⟩) (fun H' p => by
      refine q Dl H' (fresh_back e1 p.1) (e1.trans p.2.1) ?_
      rw [p.2.2]
      congr 2
      unfold given
      rw [List.filter_eq_self.mpr (fun _ _ => rfl)]
      refine List.ext_getElem? fun i => ?_
      rw [List.getElem?_map, List.getElem?_map]
      by_cases hi : i < z.cps.size
      · rw [List.getElem?_range hi]
        have hi' : i < z.cps.toList.length := by simpa using hi
        rw [List.getElem?_eq_getElem hi']
        simp [hi]
      · rw [List.getElem?_eq_none (by simp; omega), List.getElem?_eq_none (by simp; omega)]
        rfl)⟩
theorem given_all (n : Nat) (v : Nat → V) : given n (fun _ => true) v = (List.range n).map v := by
  unfold given
  rw [List.filter_eq_self.mpr (fun _ _ => rfl)]
end
local macro_rules | `(tactic| walk_at "len") => `(tactic| first | assumption | exact Nat.le_of_ble_eq_true rfl | omega | decide +kernel)
local macro_rules | `(tactic| walk_at "rv") => `(tactic| first | with_reducible exact rv_isB | with_reducible exact rv_notB | exact rv_leStr | exact rv_notInS | (apply rv_addStr; walk_at "len"))
local macro_rules | `(tactic| walk_at "rc") => `(tactic| (apply rc_lenStr; walk_at "len"))
local macro_rules | `(tactic| walk_at "xc") => `(tactic| ((with_reducible apply ev_chain); (focus (walk_at "ev")); (focus (walk_at "ev")); (focus (walk_at "rv")); (focus (intro _; walk_at "ev")); (intro _; walk_at "rv")))

section
variable {K : PySem.W.Frag} {σ : L2.St} {H H' : Hp} {ta tb tc te tl' to : TE} {x y z w v : V} {r r' : R2}
theorem x_all {bs : List Bool} (h : EvL te σ H (bs.map V.bl)) : Ev (tCB (rAll K) (tCons te tNil)) σ H (.bl (bs.all id)) := fun H1 e Q q =>
  h H1 e _ fun p H2 _ e2 h2 => ⟨p, bs, rfl, sq_of h2, q H2 e2⟩
theorem tyof_mono {t : Value} (e : Ex H H') (h : TyOf K H x t) : TyOf K H' x t := by
  cases h with
  | non => exact .non
  | bl b => exact .bl b
  | int i => exact .int i
  | str s => exact .str s
  | flt b => exact .flt b
  | lst h => exact .lst (e _ _ h)
  | frz h => exact .frz (e _ _ h)
  | tup h => exact .tup (e _ _ h)
  | dK h => exact .dK (e _ _ h)
  | dT h => exact .dT (e _ _ h)
  | ins h a b c d f => exact .ins (e _ _ h) a b c d f
theorem tyx_mono {t : Value} (e : Ex H H') (h : TyX K H x t) : TyX K H' x t := by
  cases h with
  | base h => exact .base (tyof_mono e h)
  | byt b => exact .byt b
  | set h => exact .set (e _ _ h)
  | kList h c => exact .kList h c
  | kTuple h c => exact .kTuple h c
  | kDict h c => exact .kDict h c
  | fTuple h => exact .fTuple (e _ _ h)
  | fDict h => exact .fDict (e _ _ h)
/-- all of as many values keep P -/
def AllP (P : VP) (n : Nat) : List V → Hp → Prop := fun vs H => vs.length = n ∧ ∀ v ∈ vs, P v H
theorem AllP.mono {P : VP} [Mono P] {n : Nat} {vs : List V} (e : Ex H H') (h : AllP P n vs H) : AllP P n vs H' := ⟨h.1, fun v hv => Mono.mono e (h.2 v hv)⟩
theorem axA_nil {P : VP} : EvXA tNil σ H (AllP P 0) := fun H1 _ Q q => q [] H1 (Ex.refl H1) ⟨rfl, fun _ h => by cases h⟩
theorem axA_cons {P : VP} [Mono P] {n : Nat} {tr : TA} (h : EvX te σ H P) (hr : EvXA tr σ H (AllP P n)) : EvXA (tCons te tr) σ H (AllP P (n + 1)) := fun H1 e Q q =>
  h H1 e _ fun v H2 e2 hv => hr H2 (e.trans e2) _ fun r H3 e3 hr' => q _ H3 (e2.trans e3) ⟨by rw [List.length_cons, hr'.1], fun u hu => by
    rcases List.mem_cons.mp hu with rfl | hu
    · exact Mono.mono e3 hv
    · exact hr'.2 u hu⟩
theorem x_lstA {P : VP} [Mono P] {n : Nat} {ta : TA} (h : EvXA ta σ H (AllP P n)) (hn : n ≤ 100000) : EvX (tLst ta) σ H (fun v H2 => ∃ p vs, v = .ref p ∧ H p = none ∧ H2 p = some (.lst vs) ∧ AllP P n vs H2) := fun H1 e Q q =>
  h H1 e _ fun vs H2 e2 hv => ⟨sz_of (by rw [hv.1]; exact hn), fun p hp => q _ _ (e2.trans (Ex.new hp)) ⟨p, vs, rfl, fresh_back e (fresh_back e2 hp), upd_same, hv.mono (Ex.new hp)⟩⟩
/-- {k: v}, one pair -/
theorem x_disp1 {tk tv : TE} {s : Str} {v : V} (hk : Ev tk σ H (.str s)) (hv : Ev tv σ H v) : EvX (tDisp [(tk, tv)]) σ H (Nw H (.dK [(.inr s, v)])) := fun H1 e Q q => fun p hp =>
  hk _ (e.trans (Ex.new hp)) _ fun H2 e2 => hv H2 ((e.trans (Ex.new hp)).trans e2) _ fun H3 e3 => ⟨e3 _ _ (e2 _ _ upd_same), [(.inr s, v)], rfl, Nat.le_of_ble_eq_true rfl, q _ _ (Ex.mut (((Ex.new hp).trans e2).trans e3) hp) ⟨p, rfl, fresh_back e hp, upd_same⟩⟩
end

theorem pg_tupK {X : Cx} {K : PySem.W.Frag} {es : List Expr} {pos : Pos} {k : Nat} {t : TGs} {n : Nat} (hK : X.K = K) (hc : X.calm = true) (h : PGs X es t) (hn : (assignEach es X.env).length = n) (hst : (assignEach es X.env).findIdx? (·.1) = none) : PG X (.Tuple es k pos) (gTup K n t) := by
  subst hK
  exact pg_tup hc h hn hst
section
variable {K : PySem.W.Frag} {σ : L2.St} {H H' : Hp} {te : TE}
theorem map_range_get {α β : Type} (xs : List α) (d : α) (v : α → β) : (List.range xs.length).map (fun i => v (xs[i]?.getD d)) = xs.map v := by
  refine List.ext_getElem? fun i => ?_
  rw [List.getElem?_map, List.getElem?_map]
  by_cases hi : i < xs.length
  · rw [List.getElem?_range hi, List.getElem?_eq_getElem hi]
    simp [hi]
  · rw [List.getElem?_eq_none (by simp; omega), List.getElem?_eq_none (by omega)]
    rfl
/-- [e for x in t], t a tuple -/
theorem el_lcT {a : Addr} {xs : List V} {tl : TE} {j : Nat} {vs : List Nat} (v : V → V) (h : Ev tl σ H (.ref a)) (hx : SqT K H a xs) (hz : xs.length ≤ 40000) (hw : ∀ x, wipe ((wipe σ vs).set j (some x)) vs = wipe σ vs)
    (he : ∀ (x : V) H1, Ex H H1 → x ∈ xs → Ev te ((wipe σ vs).set j (some x)) H1 (v x)) :
    EvL (tLc (iTup K tl) (gName j) tYes te vs) σ H (xs.map v) := fun H0 e Q q => h H0 e _ fun H1 e1 => ⟨a, rfl, ⟨xs, ex_t (e.trans e1) hx⟩, fun Dl hD =>
  lc_it (walk_tup (K := K) (a := a) (xs := xs)) (Cw H1 (fun _ => true) (fun i => v (xs[i]?.getD .non)) Dl) ⟨hD, Ex.new hD, upd_same⟩ (fun i H' hi p => ex_t ((e.trans e1).trans p.2.1) hx) (fun i x H' H'' hi p y => by
      obtain ⟨rfl, hc⟩ := y
      exact ⟨hw _, cw_turn p (by omega) et_yes (fun _ => by
        have := he x H1 (e.trans e1) (List.mem_of_getElem? hc)
        rw [hc]
        exact this)⟩) (fun H' p => by
      refine q Dl H' (fresh_back e1 p.1) (e1.trans p.2.1) ?_
      rw [p.2.2, given_all, map_range_get])⟩
end
/-! ### a dict that is walked: locked, then as before -/
section
variable {K : PySem.W.Frag} {H H' : Hp} {d : Addr} {od : Obj} {kvs : List (Key × V)}
theorem lock_t {q : Addr} {xs : List V} (hd : H d = some (.dK kvs)) (h : SqT K H q xs) : SqT K (upd H d (.frz od (.dK kvs))) q xs := by
  rcases h with (h | ⟨o, h⟩) | h
  · exact .inl (.inl (by rw [upd_ne (ne_of h hd (by intro z; cases z))]; exact h))
  · exact .inl (.inr ⟨o, by rw [upd_ne (ne_of h hd (by intro z; cases z))]; exact h⟩)
  · exact .inr h
theorem lock_ty {x : V} {t : Value} (hd : H d = some (.dK kvs)) (h : TyX K H x t) : TyX K (upd H d (.frz od (.dK kvs))) x t := by
  cases h with
  | base h =>
    cases h with
    | non => exact .base .non
    | bl b => exact .base (.bl b)
    | int i => exact .base (.int i)
    | str s => exact .base (.str s)
    | flt b => exact .base (.flt b)
    | lst h => exact .base (.lst (by rw [upd_ne (ne_of h hd (by intro z; cases z))]; exact h))
    | frz h => exact .base (.frz (by rw [upd_ne (ne_of h hd (by intro z; cases z))]; exact h))
    | tup h => exact .base (.tup (by rw [upd_ne (ne_of h hd (by intro z; cases z))]; exact h))
    | @dK a kvs' h =>
      by_cases e : a = d
      · subst e
        exact .fDict upd_same
      · exact .base (.dK (by rw [upd_ne e]; exact h))
    | dT h => exact .base (.dT (by rw [upd_ne (ne_of h hd (by intro z; cases z))]; exact h))
    | ins h a b c d f => exact .base (.ins (by rw [upd_ne (ne_of h hd (by intro z; cases z))]; exact h) a b c d f)
  | byt b => exact .byt b
  | set h => exact .set (by rw [upd_ne (ne_of h hd (by intro z; cases z))]; exact h)
  | kList h c => exact .kList h c
  | kTuple h c => exact .kTuple h c
  | kDict h c => exact .kDict h c
  | fTuple h => exact .fTuple (by rw [upd_ne (ne_of h hd (by intro z; cases z))]; exact h)
  | fDict h => exact .fDict (by rw [upd_ne (ne_of h hd (by intro z; cases z))]; exact h)
theorem unlock {u : HO} (hd : H d = some u) (e : Ex (upd H d (.frz od u)) H') : Ex H (upd H' d u) := fun a o h => by
  by_cases hq : a = d
  · subst hq
    rw [hd] at h
    rw [upd_same]
    exact h
  · rw [upd_ne hq]
    exact e a o (by rw [upd_ne hq]; exact h)
theorem lock_free {u : HO} {a : Addr} (hd : H d = some u) (e : Ex (upd H d (.frz od u)) H') (h : H' a = none) : H a = none := by
  have h1 := fresh_back e h
  by_cases hq : a = d
  · subst hq
    rw [upd_same] at h1
    cases h1
  · rw [upd_ne hq] at h1
    exact h1
end
section
variable {K : PySem.W.Frag} {σ : L2.St} {H H' : Hp} {te td : TE}
theorem ex_upd2 {d : Addr} {o : HO} (e : Ex H H') : Ex (upd H d o) (upd H' d o) := fun a u h => by
  by_cases hq : a = d
  · subst hq
    rw [upd_same] at h ⊢
    exact h
  · rw [upd_ne hq] at h ⊢
    exact e a u h
/-- [e for k, x in d.items()] -/
theorem el_lockItems {d : Addr} {kvs : List (Key × V)} {i j n : Nat} {vs : List Nat} (vals : List V) (hv : vals.length = kvs.length) (hd : H d = some (.dK kvs)) (h : ∀ H', Ev td σ H' (.ref d)) (hn : n = 2) (hz : kvs.length ≤ 30000)
    (hw : ∀ x y, wipe (((wipe σ vs).set i (some x)).set j (some y)) vs = wipe σ vs) (he : ∀ (m : Nat) (kv : Key × V) (u : V), kvs[m]? = some kv → vals[m]? = some u → ∀ od H1, Ex (upd H d (.frz od (.dK kvs))) H1 → Ev te (((wipe σ vs).set i (some (kV kv.1))).set j (some kv.2)) H1 u) :
    EvL (tLockE (tLc (iItems td) (gTup K n (gCons (gName i) (gCons (gName j) gNil))) tYes te vs)) σ H vals := fun H0 e Q q => by
  refine ⟨d, .dK kvs, e _ _ hd, trivial, fun od => ?_⟩
  refine h _ _ (Ex.refl _) _ fun H2 e2 => ?_
  have hd2 : H2 d = some (.frz od (.dK kvs)) := e2 d _ upd_same
  have e02 : Ex (upd H d (.frz od (.dK kvs))) H2 := (ex_upd2 e).trans e2
  refine ⟨d, od, kvs, rfl, hd2, fun Dl hD => ?_⟩
  refine lc_it (walk_items (d := d) (o := od) (kvs := kvs)) (Cw H2 (fun _ => true) (fun i => vals[i]?.getD .non) Dl) ⟨hD, Ex.new hD, upd_same⟩ (fun _ H' _ p => p.2.1 d _ hd2) (fun m x H' H'' hi p y => ?_) (fun H' p => ?_)
  · obtain ⟨T, a, b, rfl, hT, rfl, ha, hb⟩ := y
    have p' : Cw H2 (fun _ => true) (fun i => vals[i]?.getD .non) Dl m (upd H' T (.tup [a, b])) := ⟨p.1, p.2.1.trans (Ex.new hT), by rw [upd_ne (ne_of_none p.2.2 hT)]; exact p.2.2⟩
    have hkv : kvs[m]? = some kvs[m] := List.getElem?_eq_getElem hi
    have hi' : m < vals.length := by omega
    have hu : vals[m]? = some vals[m] := List.getElem?_eq_getElem hi'
    have ha' : a = kV kvs[m].1 := by
      have ha : Option.map (fun kv => kV kv.1) kvs[m]? = some a := ha
      rw [hkv] at ha
      exact (Option.some.inj ha).symm
    have hb' : b = kvs[m].2 := by
      have hb : Option.map Prod.snd kvs[m]? = some b := hb
      rw [hkv] at hb
      exact (Option.some.inj hb).symm
    refine ⟨T, [a, b], rfl, .inl (.inl upd_same), by rw [hn]; rfl, a, [b], rfl, b, [], rfl, rfl, hw a b, ?_⟩
    refine cw_turn p' (by omega) et_yes (fun _ => ?_)
    rw [hu, ha', hb']
    exact he m kvs[m] vals[m] hkv hu od H2 e02
  · have hne : Dl ≠ d := fun z => by
      rw [z, hd2] at hD
      cases hD
    refine ⟨p.2.1 d _ hd2, q Dl _ (lock_free (e _ _ hd) e2 hD) (unlock (e _ _ hd) (e2.trans p.2.1)) ?_⟩
    rw [upd_ne hne, p.2.2, given_all, ← hv, map_range_get vals .non (fun x => x), List.map_id']
end

/-! ### two tuples of two numbers, alike or not -/
section
variable {K : PySem.W.Frag} {H : Hp} {x y : V}
theorem rv_neD {d e : PyData} (h1 : ∀ H1, Ex H H1 → Dp K H1 x d) (h2 : ∀ H1, Ex H H1 → Dp K H1 y e) (s1 : SeqAt.shaped d = true) (s2 : SeqAt.shaped e = true) : RV (rNeD K) x y H (.bl (!PyData.eqv d e)) := fun H1 e _ q => ⟨_, _, h1 H1 e, h2 H1 e, s1, s2, q H1 (Ex.refl H1)⟩
theorem rv_eqD {d e : PyData} (h1 : ∀ H1, Ex H H1 → Dp K H1 x d) (h2 : ∀ H1, Ex H H1 → Dp K H1 y e) (s1 : SeqAt.shaped d = true) (s2 : SeqAt.shaped e = true) : RV (rEqD K) x y H (.bl (PyData.eqv d e)) := fun H1 e _ q => ⟨_, _, h1 H1 e, h2 H1 e, s1, s2, q H1 (Ex.refl H1)⟩
theorem dp_two {q : Addr} {a b : Int} (h : SqT K H q [.int a, .int b]) : Dp K H (.ref q) (.tuple [.int a, .int b]) := .tup h (.cons (.int a) (.cons (.int b) .nil))
theorem eqv_two (a b c d : Int) : PyData.eqv (.tuple [.int a, .int b]) (.tuple [.int c, .int d]) = (decide (a = c) && decide (b = d)) := by
  simp [PyData.eqv, PyData.eqvAll, Bool.beq_eq_decide_eq]
theorem shaped_two (a b : Int) : SeqAt.shaped (.tuple [.int a, .int b]) = true := by
  simp [SeqAt.shaped, PyData.canLay0, PyData.canLayAll0, PyData.depth, PyData.depthAll]
end

/-! ### sorted(d), the keys texts, any number of them -/
open PyProof.Rows in
def signsV : Value → List Nat
  | .str x _ => x.cps.toList
  | _ => []
def ltSg (v u : Value) : Bool := decide (signsV v < signsV u)
theorem swo_sg : SrtO.Swo ltSg := ⟨fun x y h => decide_eq_false fun h2 => List.lt_asymm (of_decide_eq_true (p := signsV x < signsV y) h) h2,
  fun x y z h1 h2 => by
    have a := of_decide_eq_false (p := signsV y < signsV x) h1
    have b := of_decide_eq_false (p := signsV z < signsV y) h2
    exact decide_eq_false (p := signsV z < signsV x) (List.le_trans (show signsV x ≤ signsV y from a) (show signsV y ≤ signsV z from b))⟩
section
variable {prog : Program} {w : World} {A : Around} {s : Shared}
theorem strs_each : ∀ {vs : List Value} {ss : List Str}, PyProof.Rows.StrsAre vs ss → ∀ v ∈ vs, ∃ x t, v = Value.str x t
  | _, _, .nil, v, h => absurd h List.not_mem_nil
  | _, _, .cons x t r, v, h => by
    rcases List.mem_cons.mp h with e | h
    · exact ⟨x, t, e⟩
    · exact strs_each r v h
theorem strs_of : ∀ {vs : List Value}, (∀ v ∈ vs, ∃ x t, v = Value.str x t) → PyProof.Rows.StrsAre vs (vs.map fun v => ofL (signsV v))
  | [], _ => .nil
  | v :: vs, h => by
    obtain ⟨x, t, e⟩ := h v List.mem_cons_self
    subst e
    have e2 : ofL (signsV (.str x t)) = x := ofL_eta x
    rw [List.map_cons, e2]
    exact .cons x t (strs_of fun u hu => h u (List.mem_cons_of_mem _ hu))
theorem of_strs : ∀ {vs : List Value} {ss : List Str}, PyProof.Rows.StrsAre vs ss → (vs.map fun v => ofL (signsV v)) = ss
  | _, _, .nil => rfl
  | _, _, .cons x t r => by
    rw [List.map_cons, of_strs r]
    congr 1
theorem sortable_sg {a : Addr} {vs : List Value} {ss : List Str} (hS : PyProof.Rows.StrsAre vs ss) (h2 : 2 ≤ vs.length) : SrtO.SortableO prog w A s a vs ltSg := by
  intro h' _
  refine ⟨PyProof.Rows.oneType', fun Q E hq => ?_, fun p q hp hq => ?_⟩
  · match vs, hS, h2 with
    | a :: b :: r, hS, _ =>
      rw [PyProof.Rows.keyKind_strs hS]
      exact wpAny_pure hq
    | [], _, h => exact absurd h (by decide)
    | [v], _, h => exact absurd h (by simp)
  · obtain ⟨x, t, e⟩ := strs_each hS _ hp
    obtain ⟨y, u, e'⟩ := strs_each hS _ hq
    show wpAny (model prog w) A (PyProof.Rows.keyLt' PyProof.Rows.oneType' p.1 q.1) (fun r s' => s' = _ ∧ r = ltSg p.1 q.1) (fun _ _ => False) _
    rw [e, e', PyProof.Rows.keyLt'_oneType]
    exact PyProof.Rows.oneLt_str ⟨rfl, rfl⟩
end
def rSortD : List V → Hp → VK → Prop := fun xs H Q => ∃ (a : Addr) (kvs : List (Key × V)) (ks : List Str), xs = [.ref a] ∧ Rd H a (.dK kvs) ∧ kvs.map (·.1) = ks.map Sum.inr ∧ ks.length ≤ 100000 ∧
  ∀ (ys : List Str) (p : Addr), ys.Perm ks → ys.Pairwise (fun x y => ¬ y.cps.toList < x.cps.toList) → H p = none → Q (.ref p) (upd H p (.lst (ys.map V.str)))
theorem pw_of {out : List Value} (h : SrtO.Srtd ltSg out) : (out.map fun v => ofL (signsV v)).Pairwise fun x y => ¬ y.cps.toList < x.cps.toList :=
  List.pairwise_map.mpr (h.imp fun {x y} g => of_decide_eq_false (p := signsV y < signsV x) g)
theorem gc_sortedD {X : Cx} (hcalm : X.calm = true) : CallR X (.builtin "sorted") rSortD := by
  intro pins s σ H xs us Q I r ⟨a, kvs, ks, ex, hd, hks, hlk, q⟩
  subst ex
  obtain ⟨u, rfl, rx⟩ := vals1 r
  cases (show u = Value.ref a from rx)
  obtain ⟨_, lo, vs, rel, dd⟩ := dk_rd I.hok hd
  obtain ⟨ep, hat⟩ := dd.dictAt
  have hkeys : vs.map Prod.fst = ks.map Sum.inr := (rel.keys.symm.trans hks)
  have hl : vs.length = ks.length := by simpa using congrArg List.length hkeys
  have hsz : vs.length ≤ sizeLine := sz_of (by rw [hl]; exact hlk)
  refine Calls.call_function_entry PyProof.Rows.kind_sorted PyProof.Rows.plain_sorted PyProof.Rows.entry_sorted (PyProof.Rows.args_sorted1 _) (?_ : wpAny _ _ (Builtin.«sorted» _) _ _ _)
  unfold Builtin.«sorted»
  refine wpAny_bind (m := checkCount "sorted" 1 1 _) (wpAny_pure (wpAny_bind (PySem.W.kdu_collect (A := X.A.in1) (PySem.W.kdl_dict (knd := mixKind X.prog X.w) (kvs := vs) (ep := ep) lo) (I.ok.hd hcalm) hat hsz fun h1 tk acc hk hacc => ?_)))
  have hal : acc.toList.length = ks.length := (by rw [Array.length_toList, hacc.1, hl])
  have hS : PyProof.Rows.StrsAre acc.toList ks := strs_at hal fun j v e => by
    obtain ⟨k, x, g1, g2⟩ := hacc.2 j v (by simpa using e)
    have g3 : (vs.map Prod.fst)[j]? = some k := by simp [g1]
    rw [hkeys, List.getElem?_map] at g3
    cases g4 : ks[j]? with
    | none => simp [g4] at g3
    | some y =>
      rw [g4] at g3
      obtain rfl : Sum.inr y = k := Option.some.inj g3
      obtain ⟨t, ev⟩ := Value.isStrOf_shape (x := y) (v := v) g2
      exact ⟨y, t, rfl, ev⟩
  have I1 : Inv X pins σ H { s with heap := h1, toks := tk } := I.kept hk
  have hz : acc.toList.length ≤ sizeLine := by rw [hal]; exact sz_of hlk
  refine wpAny_bind (wpAny_newList (?_ : wpAny _ _ _ _ _ { s with heap := h1.push (PyProof.Rows.seqObj "list" acc.toList.toArray 0), toks := tk }) (by rw [Array.length_toList] at hz; exact hz))
  have hoL : (h1.push (PyProof.Rows.seqObj "list" acc.toList.toArray 0)).get? h1.objs.size = some (PyProof.Rows.seqObj "list" acc.toList.toArray 0) := (Heap.get?_push_size _ rfl)
  refine wpAny_bind (wpAny_holding (wpAny_call_entry PyProof.Rows.slot_list_sort ⟨_, hoL, rfl⟩ PyProof.Rows.entry_list_sort (SrtO.list_sort_ord swo_sg hoL hz (fun h2 => sortable_sg hS h2) fun out o1 o2 => ⟨_, rfl, ?_⟩) (PyProof.Rows.args_list_sort _)))
  have hm : ∀ v ∈ out, ∃ x t, v = Value.str x t := fun v hv => strs_each hS v (o2.perm.mem_iff.mp hv)
  have hp : (out.map fun v => ofL (signsV v)).Perm ks := by
    have := o2.perm.map fun v => ofL (signsV v)
    rw [of_strs hS] at this
    exact this
  obtain ⟨e', he'⟩ := PyProof.Rows.sortedHeap_at (vs := acc.toList) (out := out.toArray) hoL
  refine wpAny_pure ⟨_, rfl, .ref h1.objs.size, upd H h1.objs.size (.lst ((out.map fun v => ofL (signsV v)).map V.str)), I1.laid (t' := tk) (fun b u e => ?_) (Nat.le_refl _) (show ObjOk X.prog X.w _ _ _ (.lst _) from ⟨by rw [List.length_map, hp.length_eq]; exact sz_of hlk, out, e', vals_of_strs (strs_of hm), he'⟩), rfl, q _ _ hp (pw_of o1) (I1.hok.fresh (Nat.le_refl _))⟩
  have hb := Heap.lt_size e
  have hb2 : b < (h1.push (PyProof.Rows.seqObj "list" acc.toList.toArray 0)).objs.size := by rw [PyProof.Rows.size_push']; exact Nat.lt_succ_of_lt hb
  exact (PyProof.Rows.sortedHeap_old (Nat.ne_of_lt hb) hb2).trans (Heap.get?_push_of_some _ e)

/-! ### dicts copied, alike, with one put in -/
section
theorem putK_len {kvs : List (Key × V)} {k : Key} {v : V} : (putK kvs k v).length ≤ kvs.length + 1 := by
  unfold putK
  split
  · rw [List.length_map]; omega
  · rw [List.length_append]; simp
theorem putK_nd {kvs : List (Key × V)} {k : Key} {v : V} (h : (kvs.map (·.1)).Nodup) : ((putK kvs k v).map (·.1)).Nodup := by
  cases e : valV kvs k with
  | none => exact nd_putK v h e
  | some u =>
    have he : (kvs.any fun kv => decide (kv.1 = k)) = true := by
      rw [valV_any, e]
      rfl
    unfold putK
    rw [if_pos he, List.map_map]
    have : ((fun x : Key × V => x.1) ∘ fun kv : Key × V => if kv.1 = k then (kv.1, v) else kv) = fun x => x.1 := by
      funext x
      show (if x.1 = k then (x.1, v) else x).1 = x.1
      split <;> rfl
    rw [this]
    exact h
theorem putK_full {kvs : List (Key × V)} {k : Key} {v : V} (h : (putK kvs k v).length = kvs.length + 1) : putK kvs k v = kvs ++ [(k, v)] := by
  unfold putK at h ⊢
  split
  · rename_i e
    rw [if_pos e, List.length_map] at h
    omega
  · rfl
end
section
variable {X : Cx}
/-- == and != of two dicts with the same pairs: values alike in place or plain -/
theorem hits_same {A : Around} {s : Shared} {kvs : List (Key × V)} {vb : List (Key × Value)} (rb : KV kvs vb) {ks : List (Key × V)} {va : List (Key × Value)} (ra : KV ks va) :
    (∀ p ∈ ks, valV kvs p.1 = some p.2 ∧ (flatB p.2 = true ∨ ∃ a, p.2 = .ref a)) → PySem.W.KeqHits A s vb va true := by
  unfold KV at ra
  induction ra with
  | nil => intro _; exact .nil
  | @cons p q ps qs h t ih =>
    intro hp
    obtain ⟨h1, h2⟩ := h
    obtain ⟨e, f⟩ := hp p List.mem_cons_self
    have rr : RelO (some p.2) (PySem.valueAt vb p.1) := by rw [← e]; exact rb.val p.1
    obtain ⟨y, hy, ry⟩ := rr.some_of
    obtain ⟨k, v⟩ := q
    have h1' : p.1 = k := h1
    rw [h1'] at hy
    show PySem.W.KeqHits A s vb ((k, v) :: qs) (true && true)
    refine .hit hy ?_ (ih fun p' hm => hp p' (List.mem_cons_of_mem _ hm))
    rcases f with f | ⟨a, f⟩
    · exact eqAt_same h2 ry f
    · rw [f] at h2 ry
      cases (show v = Value.ref a from h2)
      cases (show y = Value.ref a from ry)
      exact SeqAt.EqAt.same _
def rDictSame (r : Bool) : R2 := fun x y H Q => ∃ a b ks ls, x = .ref a ∧ y = .ref b ∧ H a = some (.dK ks) ∧ H b = some (.dK ls) ∧
  ((ks.length = ls.length ∧ (∀ p ∈ ks, valV ls p.1 = some p.2 ∧ (flatB p.2 = true ∨ ∃ a, p.2 = .ref a)) ∧ Q (.bl r) H) ∨ (ks.length ≠ ls.length ∧ Q (.bl (!r)) H))
theorem gc_ne_dict (hu : X.A.units < cLine) : OpR X (compareOp .NotEq) (rDictSame false) := by
  intro pins s σ H x y v u Q I rx ry h
  obtain ⟨a, b, ks, ls, rfl, rfl, ea, eb, h⟩ := h
  obtain rfl : v = Value.ref a := rx
  obtain rfl : u = Value.ref b := ry
  obtain ⟨_, ya, va, ra, da⟩ := (show ObjOk X.prog X.w H s.heap a (.dK ks) from I.hok a _ ea)
  obtain ⟨_, yb, vb, rb, db⟩ := (show ObjOk X.prog X.w H s.heap b (.dK ls) from I.hok b _ eb)
  have l1 := ra.length
  have l2 := rb.length
  rcases h with ⟨hlen, hp, q⟩ | ⟨hlen, q⟩
  · have hl : va.length = vb.length := by rw [← l1, ← l2]; exact hlen
    exact PySem.W.keq_ne (knd := mixKind X.prog X.w) (r := true) ya yb da db hu (fun _ => hits_same rb ra hp) (fin_bl I q (by simp [hl]))
  · have hl : va.length ≠ vb.length := by rw [← l1, ← l2]; exact hlen
    exact PySem.W.keq_ne (knd := mixKind X.prog X.w) (r := true) ya yb da db hu (fun z => absurd z hl) (fin_bl I q (by simp [hl]))
theorem gc_eq_dict (hu : X.A.units < cLine) : OpR X (compareOp .Eq) (rDictSame true) := by
  intro pins s σ H x y v u Q I rx ry h
  obtain ⟨a, b, ks, ls, rfl, rfl, ea, eb, h⟩ := h
  obtain rfl : v = Value.ref a := rx
  obtain rfl : u = Value.ref b := ry
  obtain ⟨_, ya, va, ra, da⟩ := (show ObjOk X.prog X.w H s.heap a (.dK ks) from I.hok a _ ea)
  obtain ⟨_, yb, vb, rb, db⟩ := (show ObjOk X.prog X.w H s.heap b (.dK ls) from I.hok b _ eb)
  have l1 := ra.length
  have l2 := rb.length
  rcases h with ⟨hlen, hp, q⟩ | ⟨hlen, q⟩
  · have hl : va.length = vb.length := by rw [← l1, ← l2]; exact hlen
    exact PySem.W.keq_eq (knd := mixKind X.prog X.w) (r := true) ya yb da db hu (fun _ => hits_same rb ra hp) (fin_bl I q (by simp [hl]))
  · have hl : va.length ≠ vb.length := by rw [← l1, ← l2]; exact hlen
    exact PySem.W.keq_eq (knd := mixKind X.prog X.w) (r := true) ya yb da db hu (fun z => absurd z hl) (fin_bl I q (by simp [hl]))
end
section
variable {K : PySem.W.Frag} {σ : L2.St} {H H' : Hp} {ta tb te td tk tv : TE} {x y v : V}
def rDictCopy : List V → Hp → VK → Prop := fun xs H Q => ∃ (a : Addr) (kvs : List (Key × V)), xs = [.ref a] ∧ Rd H a (.dK kvs) ∧ ∀ p, H p = none → Q (.ref p) (upd H p (.dK kvs))
theorem x_dcopy {a : Addr} {kvs : List (Key × V)} (h : Ev ta σ H (.ref a)) (hd : H a = some (.dK kvs)) : EvX (tCB rDictCopy (tCons ta tNil)) σ H (Nw H (.dK kvs)) := fun H1 e Q q =>
  h H1 e _ fun H2 e2 => ⟨a, kvs, rfl, .inl (e2 _ _ (e _ _ hd)), fun p hp => q _ _ (e2.trans (Ex.new hp)) ⟨p, rfl, fresh_back e (fresh_back e2 hp), upd_same⟩⟩
end
section
variable {K : PySem.W.Frag} {σ : L2.St} {H H' : Hp} {ta tb te td tk tv : TE} {x y v : V} {D : Ends} {tz : TS} {P P1 P2 : VP}
theorem x_tup2X [Mono P1] [Mono P2] (h1 : EvX ta σ H P1) (h2 : EvX tb σ H P2) : EvX (tTup (tCons ta (tCons tb tNil))) σ H (fun v H2 => ∃ p a b, v = .ref p ∧ H p = none ∧ H2 p = some (.tup [a, b]) ∧ P1 a H2 ∧ P2 b H2) := fun H1 e Q q =>
  h1 H1 e _ fun a H2 e2 ha => h2 H2 (e.trans e2) _ fun b H3 e3 hb => ⟨Nat.le_of_ble_eq_true rfl, fun p hp => q _ _ ((e2.trans e3).trans (Ex.new hp)) ⟨p, a, b, rfl, fresh_back e (fresh_back (e2.trans e3) hp), upd_same, Mono.mono (e3.trans (Ex.new hp)) ha, Mono.mono (Ex.new hp) hb⟩⟩
theorem qx_setL {l : Addr} {xs : List V} {j : Nat} (hl : H l = some (.lst xs)) (h : EvX te σ H P) (ho : Ev ta σ H (.ref l)) (hi : Ev tb σ H (.int (j : Int))) (hj : j < xs.length) (hm : ∀ v H1 H2, Ex H1 H2 → P v H1 → P v H2) (k : ∀ v H1, Ex H H1 → P v H1 → tz D σ (upd H1 l (.lst (xs.set j v)))) :
    tSeq (tAsg te (gSub ta tb rSetL)) tz D σ H := h H (Ex.refl H) _ fun v H1 e1 hv => ho H1 e1 _ fun H2 e2 => hi H2 (e1.trans e2) _ fun H3 e3 =>
  ⟨l, xs, (j : Int), j, rfl, rfl, ((e1.trans e2).trans e3) l _ hl, ixN_nat hj, k v H3 ((e1.trans e2).trans e3) (hm v H1 H3 (e2.trans e3) hv)⟩
theorem s_dput {d : Addr} {kvs : List (Key × V)} {k : Key} (hv : Ev tv σ H v) (hd : Ev td σ H (.ref d)) (hk : Ev tk σ H (kV k)) (h : H d = some (.dK kvs)) (hl : kvs.length < 100000) (c : ∀ H1, Ex H H1 → D.nx σ (upd H1 d (.dK (putK kvs k v)))) : sDPut td tk tv D σ H :=
  hv H (Ex.refl H) _ fun H1 e1 => hd H1 e1 _ fun H2 e2 => hk H2 (e1.trans e2) _ fun H3 e3 => ⟨d, _, rfl, DPut.k (((e1.trans e2).trans e3) _ _ h) (sz_lt hl), c H3 ((e1.trans e2).trans e3)⟩
theorem rv_neDict {a b : Addr} {ks ls : List (Key × V)} (h1 : H a = some (.dK ks)) (h2 : H b = some (.dK ls)) (hl : ks.length = ls.length) (hp : ∀ p ∈ ks, valV ls p.1 = some p.2 ∧ (flatB p.2 = true ∨ ∃ a, p.2 = .ref a)) : RV (rDictSame false) (.ref a) (.ref b) H (.bl false) := fun H1 e _ q =>
  ⟨a, b, ks, ls, rfl, rfl, e _ _ h1, e _ _ h2, .inl ⟨hl, hp, q H1 (Ex.refl H1)⟩⟩
end

/-! ### enumerate(d), d a dict that stays as it is -/
section
variable {prog : Program} {w : World} {A : Around} {E : Value → Shared → Prop} {s : Shared}
set_option maxHeartbeats 2000000 in
theorem enum_meets {v : Value} {ob : Obj} {G : Heap → Prop} (B : PySem.Begins v ob G) : PySem.Meets (Builtin.«enumerate.__new__» ⟨[.type "enumerate", v], []⟩) (fun _ R s => G s.heap ∧
      R (.ok (.ret (.ref (s.heap.push ob).objs.size))) { s with heap := (s.heap.push ob).push { cls := .type "enumerate", data := .fields #[.none, .bool false, .ref s.heap.objs.size, rawInt 0, .none, .none] } }) :=
  .of_wp fun prog w A R s hh => by
    obtain ⟨hp, gg, dd, tt, oo⟩ := s
    obtain ⟨hg, hR⟩ := hh
    have hsub := sub_enumerate
    have begin_ : ∀ {A' : Around} {E' : Value → Shared → Prop} {Q' : Value → Shared → Prop}, Q' (.ref hp.objs.size) ⟨hp.push ob, gg, dd, tt, oo⟩ → wpAny (model prog w) A' (pyIter v) Q' E' ⟨hp, gg, dd, tt, oo⟩ := fun q => B.iter prog w _ _ ⟨hp, gg, dd, tt, oo⟩ _ hg q
    wp_walk using begin_
    refine wpAny_stack_any fun st => (wpAny_pure ?_)
    split
    · rename_i cc _ _ _ _ _
      cases (cc == Value.type "enumerate") <;> (wp_walk using begin_; exact ⟨_, rfl, hR⟩)
    · wp_walk using begin_
      exact ⟨_, rfl, hR⟩
theorem enum_call {v : Value} {ob : Obj} {G : Heap → Prop} {Q : Value → Shared → Prop} (B : PySem.Begins v ob G) (hg : G s.heap)
    (k : ∀ h', IsEnum h' (s.heap.objs.size + 1) s.heap.objs.size 0 .none → h'.get? s.heap.objs.size = some ob → (∀ b o, s.heap.get? b = some o → h'.get? b = some o) → Q (.ref (s.heap.objs.size + 1)) { s with heap := h' }) :
    wpAny (model prog w) A (call (.type "enumerate") [v]) Q E s := by
  refine callType_new F.called_enumerate (by decide) (F.typeCall_enumerate_1 _) (F.newCall_enumerate_1 _) (fun obj => F.args_object_init_2 obj _) F.entry_enumerate_new (enum_meets B) ⟨hg, ?_⟩
  have size1 : (s.heap.push ob).objs.size = s.heap.objs.size + 1 := (Heap.size_push ..)
  show _ ∧ _
  rw [size1]
  have isE : IsEnum ((s.heap.push ob).push { cls := .type "enumerate", data := .fields #[.none, .bool false, .ref s.heap.objs.size, rawInt 0, .none, .none] }) (s.heap.objs.size + 1) s.heap.objs.size 0 .none := by
    have z := Heap.get?_push_size (s.heap.push ob) (o := { cls := .type "enumerate", data := .fields #[.none, .bool false, .ref s.heap.objs.size, rawInt 0, .none, .none] }) rfl
    rw [size1] at z
    exact z
  exact ⟨⟨_, isE, rfl⟩, k _ isE (Heap.get?_push_of_some _ (Heap.get?_push_size _ B.free)) fun b o e => Heap.get?_push_of_some _ (Heap.get?_push_of_some _ e)⟩
theorem begins_keys {d : Addr} {od : Obj} {es : Array DictEntry} {ep : Nat} (lo : (d == sysModules) = false) (hx : od.ExactDict) (hdt : od.data = .dict es ep) :
    PySem.Begins (.ref d) { cls := .type "dict_keyiterator", data := .fields #[.ref d, .int 0 0, .int es.size 0, .int ep 0] } (fun h => h.get? d = some od) where
  iter := fun prog w A E s Q hg hq => iter_keys lo hg hx hdt hq
  keeps := fun h h' hg hk => hk d od hg
  free := rfl
/-- next of the keys' iterator, as a built-in asks it -/
theorem keys_next {it d : Addr} {i n ep : Nat} {od : Obj} {es : Array DictEntry} {en : DictEntry} {Q : Value → Shared → Prop} (hit : s.heap.IsKeyIter it d i n ep) (hg : s.heap.get? d = some od) (hdt : od.data = .dict es ep)
    (hsz : es.size = n) (hx : es[i]? = some en) (k : ∀ h', h'.IsKeyIter it d (i + 1) n ep → Heap.SameBut it s.heap h' → Q en.key { s with heap := h' }) : wpAny (model prog w) A (Builtin.SmallTypes.nextOf (.ref it)) Q E s := by
  obtain ⟨oi, goi, clsi, dati⟩ := id hit
  unfold Builtin.SmallTypes.nextOf
  refine wpAny_bind (wpAny_callSpecial?_slot (name := Str.ofString "__next__") hit.typeIs F.slot_dict_keyiterator_next (wpAny_call_entry F.slot_dict_keyiterator_next hit.typeIs F.entry_dict_keyiterator_next ?_ (F.args_dict_keyiterator_next_1 _)))
  refine wpAny_bind (wpAny_pure (wpAny_bind (wpAny_bind ?_)))
  first | refine wpAny_bind (wpAny_typeNameOfWhole_keyiter hit.typeIs (wpAny_pure (wpAny_bind (wpAny_fieldsOf goi dati ?_)))) | refine wpAny_bind (wpAny_typeNameOf_keyiter hit.typeIs (wpAny_pure (wpAny_bind (wpAny_fieldsOf goi dati ?_))))
  have notOwn : Builtin.Dict_items.ownsTuple "dict_keyiterator" = false := (by decide)
  simp only [notOwn, Bool.false_eq_true, ite_false, if_false]
  show wpAny _ _ (if (Value.ref d == Value.none) = true then _ else (_ : Sem _)) _ _ s
  rw [if_neg (show ¬ ((Value.ref d == Value.none) = true) from (Bool.false_ne_true))]
  refine wpAny_bind (wpAny_pure (wpAny_bind (wpAny_dictEntries hg hdt ?_)))
  rw [if_neg (by rw [hsz]; simp)]
  refine wpAny_bind (wpAny_pure (wpAny_bind (wpAny_dictEpoch hg hdt ?_)))
  rw [if_neg (by simp)]
  obtain ⟨lt', en'⟩ := Array.getElem?_eq_some_iff.mp hx
  refine wpAny_pure ?_
  simp only [show ¬ ((i : Int) < 0) from (by omega), if_false, Int.toNat_natCast, Array.getElem?_eq_getElem lt']
  refine wpAny_bind ?_
  first | refine wpAny_bind (wpAny_typeNameOfWhole_keyiter hit.typeIs (wpAny_pure (wpAny_bind (wpAny_isOneOf_keyiter hit.typeIs ?_)))) | refine wpAny_bind (wpAny_typeNameOf_keyiter hit.typeIs (wpAny_pure (wpAny_bind (wpAny_isOneOf_keyiter hit.typeIs ?_))))
  show wpAny _ _ (setField (.ref it) 1 (rawInt ((i : Int) + 1)) >>= (_ : _ → Sem _)) _ _ s
  refine wpAny_bind (wpAny_setField goi dati (by simp) ?_)
  have it' : (s.heap.update it (Obj.mapFields (·.setIfInBounds 1 (rawInt ((i : Int) + 1))))).IsKeyIter it d (i + 1) n ep := ⟨_, Heap.get?_update_self _ goi (Obj.isFreed_of_fields (Obj.data_mapFields dati _)), (Obj.cls_mapFields ..).trans clsi, (by rw [Obj.data_mapFields dati]; simp [rawInt])⟩
  refine wpAny_bind (wpAny_holding (wpAny_bind (wpAny_isOneOf_keyiter (s := { s with heap := s.heap.update it (Obj.mapFields (·.setIfInBounds 1 (rawInt ((i : Int) + 1)))) }) it'.typeIs ?_)))
  show wpAny _ _ (pure es[i].key) _ _ _
  rw [en']
  exact wpAny_pure (wpAny_pure ⟨_, rfl, wpAny_pure (k _ it' (Heap.SameBut.update ..))⟩)
theorem keys_done {it d : Addr} {i n ep : Nat} {od : Obj} {es : Array DictEntry} {Q : Value → Shared → Prop} (hh : A.handled = none) (hit : s.heap.IsKeyIter it d i n ep) (hg : s.heap.get? d = some od) (hdt : od.data = .dict es ep)
    (hsz : es.size = n) (hge : n ≤ i) (k : ∀ h' e, Heap.ExtBut it s.heap h' → (∃ o, h'.get? e = some o ∧ o.cls = .type "StopIteration") → E (.ref e) { s with heap := h' }) : wpAny (model prog w) A (Builtin.SmallTypes.nextOf (.ref it)) Q E s := by
  obtain ⟨oi, goi, clsi, dati⟩ := id hit
  unfold Builtin.SmallTypes.nextOf
  refine wpAny_bind (wpAny_callSpecial?_slot (name := Str.ofString "__next__") hit.typeIs F.slot_dict_keyiterator_next (wpAny_call_entry F.slot_dict_keyiterator_next hit.typeIs F.entry_dict_keyiterator_next ?_ (F.args_dict_keyiterator_next_1 _)))
  refine wpAny_bind (wpAny_pure (wpAny_bind (wpAny_bind ?_)))
  first | refine wpAny_bind (wpAny_typeNameOfWhole_keyiter hit.typeIs (wpAny_pure (wpAny_bind (wpAny_fieldsOf goi dati ?_)))) | refine wpAny_bind (wpAny_typeNameOf_keyiter hit.typeIs (wpAny_pure (wpAny_bind (wpAny_fieldsOf goi dati ?_))))
  have notOwn : Builtin.Dict_items.ownsTuple "dict_keyiterator" = false := (by decide)
  simp only [notOwn, Bool.false_eq_true, ite_false, if_false]
  show wpAny _ _ (if (Value.ref d == Value.none) = true then _ else (_ : Sem _)) _ _ s
  rw [if_neg (show ¬ ((Value.ref d == Value.none) = true) from (Bool.false_ne_true))]
  refine wpAny_bind (wpAny_pure (wpAny_bind (wpAny_dictEntries hg hdt ?_)))
  rw [if_neg (by rw [hsz]; simp)]
  refine wpAny_bind (wpAny_pure (wpAny_bind (wpAny_dictEpoch hg hdt ?_)))
  rw [if_neg (by simp)]
  have ge' : es.size ≤ i := (by rw [hsz]; exact hge)
  refine wpAny_pure ?_
  simp only [show ¬ ((i : Int) < 0) from (by omega), if_false, Int.toNat_natCast, Array.getElem?_eq_none ge']
  refine wpAny_bind ?_
  first | refine wpAny_bind (wpAny_typeNameOfWhole_keyiter hit.typeIs (wpAny_pure (?_ : wpAny _ _ (setField (.ref it) 0 .none >>= _) _ _ s))) | refine wpAny_bind (wpAny_typeNameOf_keyiter hit.typeIs (wpAny_pure (?_ : wpAny _ _ (setField (.ref it) 0 .none >>= _) _ _ s)))
  refine wpAny_bind (wpAny_setField goi dati (by simp) (?_ : wpAny _ _ (newExc (.type "StopIteration") [] >>= _) _ _ _))
  refine wpAny_bind ?_
  simp only [newExc, newTuple]
  refine wpAny_bind (wpAny_newObj_type (wpAny_bind (m := firstArgMember _ _) (wpAny_of_eq (a := Value.none) (by first | rfl | (simp only [firstArgMember]; rfl)) (wpAny_newObj_type ?_ (by size_fits)))) (by size_fits))
  simp only [raiseNew]
  refine wpAny_bind (wpAny_handled ?_)
  first | rw [show A.in1.handled = none from hh] | rw [hh]
  exact wpAny_bind (wpAny_pure (wpAny_throw (k _ _ (((Heap.SameBut.update ..).extBut.push _).push _) ⟨_, Heap.get?_push_size _ rfl, rfl⟩)))
theorem draws_keys {P : Program} {w : World} {A : Around} (hh : A.handled = none) {it d : Addr} {od : Obj} {es : Array DictEntry} {ep n : Nat} (hne : d ≠ it) (hdt : od.data = .dict es ep) (hsz : es.size = n) :
    PySem.Draws P w A it [it, d] n (fun i v => ∃ en, es[i]? = some en ∧ v = en.key) (fun i h => h.IsKeyIter it d i n ep ∧ h.get? d = some od) where
  live := fun _ _ st => let ⟨o, ho, _⟩ := st.1; ⟨o, ho⟩
  frame := fun _ _ _ st hk => ⟨st.1.at fun o e => hk it (by simp) o e, hk d (by simp) od st.2⟩
  item := fun i s Q E hi st hQ => keys_next st.1 st.2 hdt hsz (Array.getElem?_eq_getElem (by omega)) fun h' hit' sb => hQ _ h' s.toks ⟨_, Array.getElem?_eq_getElem (by omega), rfl⟩ ⟨hit', (sb.2 d hne).trans st.2⟩ sb
  done := fun s Q E st hE => keys_done hh st.1 st.2 hdt hsz (Nat.le_refl _) hE
end
/-- the turns of enumerate over a locked dict: a new pair of the turn and the key -/
def ItED (d : Addr) (o : Obj) (kvs : List (Key × V)) : It :=
  ⟨fun i H => H d = some (.frz o (.dK kvs)) ∧ i < kvs.length, fun i H v H' => ∃ T k u, v = .ref T ∧ H T = none ∧ H' = upd H T (.tup [.int (i : Nat), kV k]) ∧ kvs[i]? = some (k, u), fun i H => H d = some (.frz o (.dK kvs)) ∧ kvs.length ≤ i⟩
theorem walk_enumD {d : Addr} {o : Obj} {kvs : List (Key × V)} : Walk (ItED d o kvs) kvs.length (fun H => H d = some (.frz o (.dK kvs))) (fun i H v H' => ∃ T k u, v = .ref T ∧ H T = none ∧ H' = upd H T (.tup [.int (i : Nat), kV k]) ∧ kvs[i]? = some (k, u)) :=
  ⟨fun _ _ hi q => ⟨q, hi⟩, fun _ q => ⟨q, Nat.le_refl _⟩, fun _ _ _ _ _ _ y => y⟩
theorem turn_enumD {P : Program} {w : World} {K : PySem.W.Frag} {elts : List Expr} {kk : Nat} {tpos : Pos} {d e it : Addr} {o : Obj} {es : Array DictEntry} {ep : Nat} {kvs : List (Key × V)} (hod : o.data = .dict es ep) (hei : e ≠ it) (hdi : d ≠ it) (hed : e ≠ d) :
    Turn P w K (.Tuple elts kk tpos) (ItED d o kvs) [e, it] e (fun i h => (∃ old, IsEnum h e it ((i : Nat) : Int) old) ∧ h.IsKeyIter it d i kvs.length ep) where
  mem := List.mem_cons_self
  obj := fun i h st b hb => by
    obtain ⟨⟨old, he⟩, ⟨oi, hoi, _, hdi⟩⟩ := st
    rcases List.mem_cons.mp hb with z | z
    · rw [z]
      exact ⟨_, he, fun v q => nomatch q⟩
    · rw [List.mem_singleton.mp z]
      exact ⟨oi, hoi, fun v q => by rw [hdi] at q; cases q⟩
  keep := fun i h h' st k => by
    obtain ⟨⟨old, he⟩, hi⟩ := st
    exact ⟨⟨old, k e List.mem_cons_self _ he⟩, hi.at fun oi q => k it (List.mem_cons_of_mem _ List.mem_cons_self) oi q⟩
  item := by
    intro X hP hw hK hc i pins s σ H E I hf st hg
    subst hP hw hK
    obtain ⟨⟨old, he⟩, hit⟩ := st
    obtain ⟨hd, hi⟩ := hg
    obtain ⟨_, hgd, hx, es', ep', vs, hdt, hsz, kv, o', es2, hgd2, _, hdt2, hkeys, hpairs, _⟩ := I.frzK hd
    obtain ⟨rfl, rfl⟩ := dict_ep hod hdt
    obtain rfl : o' = o := Option.some.inj (hgd2.symm.trans hgd)
    obtain ⟨rfl, _⟩ := dict_ep hdt hdt2
    obtain ⟨k, v, hkv⟩ : ∃ k v, kvs[i]? = some (k, v) := ⟨kvs[i].1, kvs[i].2, List.getElem?_eq_getElem hi⟩
    obtain ⟨u, hu, ru⟩ := kv_get kv hkv
    have hel : e < s.heap.objs.size := Heap.lt_size he
    have hil : it < s.heap.objs.size := by obtain ⟨_, q, _⟩ := id hit; exact Heap.lt_size q
    have D := draws_keys (P := X.prog) (w := X.w) (A := X.A.in1) (I.ok.hd hc) (n := kvs.length) hdi hod hsz
    have hef : e ∉ [it, d] := fun h => by
      rcases List.mem_cons.mp h with z | z
      · exact hei z
      · exact hed (List.mem_singleton.mp z)
    refine wpAny_pyNext_enum_itemC D he ⟨hit, hgd⟩ hi hei hef fun x h' tk hPx ho st' hT hsz' hk => ?_
    obtain ⟨en, hen, rfl⟩ := hPx
    have hkey : keyIs k en.key = true := (hpairs.get? (e := en) (by rw [Array.getElem?_toList]; exact hen) hu).1
    refine ⟨_, rfl, wpAny_letOwnedTupleGo_enum (s := { s with heap := h', toks := tk + 1 }) ho fun h2 he2 sb => ?_⟩
    have hT2 : h2.get? s.heap.objs.size = some { cls := .type "tuple", data := .seq #[.int i tk, en.key] } := ((sb.2 _ (Nat.ne_of_gt hel)).trans hT)
    have new : ObjOk X.prog X.w (upd H s.heap.objs.size (.tup [.int (i : Nat), kV k])) h2 s.heap.objs.size (.tup [.int (i : Nat), kV k]) := ⟨by show (2 : Nat) ≤ sizeLine; decide, [.int i tk, en.key], .cons ⟨_, rfl⟩ (.cons (relV_key hkey) .nil), ⟨_, hT2, rfl, _, rfl⟩⟩
    have I1 : Inv X pins σ (upd H s.heap.objs.size (.tup [.int (i : Nat), kV k])) { s with heap := h2, toks := tk + 1 } :=
      I.turnedNew (ch := [e, it]) (fun b ob hb q => (sb.2 b (fun z => hb (by rw [z]; exact List.mem_cons_self))).trans (hk b ob (fun z => hb (by rw [z]; exact List.mem_cons_self)) (fun z => hb (by rw [z]; exact List.mem_cons_of_mem _ List.mem_cons_self)) q)) hf (Nat.le_refl _) new
    refine ⟨.ref s.heap.objs.size, _, I1, rfl, ⟨_, k, v, rfl, I.hok.fresh (Nat.le_refl _), rfl, hkv⟩, ⟨⟨en.key, ?_⟩, st'.1.at fun oi q => (sb.2 it (Ne.symm hei)).trans q⟩, fun b hb => ?_⟩
    · rw [show ((i + 1 : Nat) : Int) = (i : Int) + 1 from by omega]
      exact he2
    · have hb' : b < s.heap.objs.size := by
        rcases List.mem_cons.mp hb with z | z
        · rw [z]; exact hel
        · rw [List.mem_singleton.mp z]; exact hil
      rw [upd_ne (Nat.ne_of_lt hb')]
      exact (hf b hb).1
  done := by
    intro X hP hw hK hc i pins s σ H E I hf st hg
    subst hP hw hK
    obtain ⟨⟨old, he⟩, hit⟩ := st
    obtain ⟨hd, hge⟩ := hg
    obtain ⟨_, hgd, hx, es', ep', vs, hdt, hsz', kv, _⟩ := I.frzK hd
    have hsz : es.size = kvs.length := by rw [← (dict_ep hod hdt).1]; exact hsz'
    obtain ⟨f0, f1, f2, f3, f4, f5⟩ := hf it (List.mem_cons_of_mem _ List.mem_cons_self)
    have D0 : PySem.Draws X.prog X.w X.A.in1 it [it, d] i (fun _ _ => False) (fun j h => j = i ∧ h.IsKeyIter it d i kvs.length ep ∧ h.get? d = some o) :=
      { live := fun _ _ st => let ⟨q, hq, _⟩ := st.2.1; ⟨q, hq⟩
        frame := fun _ _ _ st hk => ⟨st.1, st.2.1.at fun q e => hk it (by simp) q e, hk d (by simp) o st.2.2⟩
        item := fun j s Q E hj st _ => absurd st.1 (Nat.ne_of_lt hj)
        done := fun s Q E st hE => keys_done (I.ok.hd hc) st.2.1 st.2.2 hod hsz hge hE }
    exact wpAny_pyNext_enum_endD D0 he ⟨rfl, hit, hgd⟩ fun h' eb => ⟨rfl, I.turned (t' := s.toks) (fun b ob hb q => eb b ob hb q) f0 f1 f3 f4 f5⟩
  self := fun A i s Q E st h => let ⟨⟨_, he⟩, _⟩ := st; wpAny_pyIter_enum he h
/-- enumerate(d): the dict is locked -/
def iEnumD (ta : TA) : TI := fun σ H R => ta σ H fun vs H1 => ∃ d o kvs, vs = [.ref d] ∧ H1 d = some (.frz o (.dK kvs)) ∧ R (ItED d o kvs) H1
theorem pi_enumD {X : Cx} {e : Expr} {ta : TA} {p pos tpos : Pos} {elts : List Expr} {kk : Nat} (hg : Gl X "enumerate") (hm : X.mg "enumerate" = none) (ha : PA X [e] ta) (hs : starEach [e] X.env = [(false, eval e X.env)] := by rfl) :
    PI X (.Tuple elts kk tpos) (.Call (.Name "enumerate" p) [e] [] pos) (iEnumD ta) := by
  refine ⟨fun pins s σ H R I h => ?_⟩
  refine PyProof.Rows.Call_ (ld_blt I hg hm PyProof.Rows.boot_enumerate (PyProof.Rows.callWith_type1 (thn (ha.run pos pins s σ H _ I h) fun us s1 ⟨vs, H1, I1, r1, q1⟩ => ?_) hs rfl))
  obtain ⟨d, o, kvs, ex, hd, q⟩ := q1
  subst ex
  obtain ⟨u, rfl, ru⟩ := vals1 r1
  cases (show u = Value.ref d from ru)
  obtain ⟨lo, hgd, hx, es, ep, vs', hdt, hsz, kv, _⟩ := I1.frzK hd
  have hdl : d < s1.heap.objs.size := Heap.lt_size hgd
  refine enum_call (begins_keys lo hx hdt) hgd fun h' he hit hk => wpAny_pyIter_enum he ?_
  have I2 : Inv X pins σ H1 { s1 with heap := h' } := I1.kept (t' := s1.toks) hk
  refine ⟨s1.heap.objs.size + 1, [s1.heap.objs.size + 1, s1.heap.objs.size], _, _, H1, rfl, I2, turn_enumD hdt (Nat.succ_ne_self _) (Nat.ne_of_lt hdl) (Ne.symm (Nat.ne_of_lt (Nat.lt_succ_of_lt hdl))), ⟨⟨.none, he⟩, ⟨_, hit, rfl, by rw [hsz] <;> rfl⟩⟩, fun b hb => ?_, q⟩
  have hle : s1.heap.objs.size ≤ b := by
    rcases List.mem_cons.mp hb with z | z
    · rw [z]; exact Nat.le_add_right _ _
    · rw [List.mem_singleton.mp z]; exact Nat.le_refl _
  exact I1.fpOk hle (I1.hok.fresh hle)

/-! ### pages: names with shares -/
abbrev Nm := List Nat
abbrev Pg := List (Nm × Int × Int)
def EntV (K : PySem.W.Frag) (H : Hp) (kv : Key × V) (e : Nm × Int × Int) : Prop := kv.1 = .inr (ofL e.1) ∧ ∃ q, kv.2 = .ref q ∧ SqT K H q [.int e.2.1, .int e.2.2]
def PgV (K : PySem.W.Frag) (H : Hp) : List (Key × V) → Pg → Prop := Paired (EntV K H)
def getP (p : Pg) (n : Nm) : Option (Int × Int) := (p.find? fun e => decide (e.1 = n)).map (·.2)
def putP (p : Pg) (n : Nm) (s : Int × Int) : Pg := if (p.any fun e => decide (e.1 = n)) = true then p.map (fun e => if e.1 = n then (e.1, s) else e) else p ++ [(n, s)]
def NmOk (n : Nm) : Prop := 1 ≤ n.length ∧ n.length ≤ 8 ∧ ∀ x ∈ n, x < 1114112
theorem ofL_inj {a b : List Nat} (h : ofL a = ofL b) : a = b := by
  have := congrArg (fun z : Str => z.cps.toList) h
  exact this
theorem key_dec (a b : Nm) : decide ((Sum.inr (ofL a) : Key) = .inr (ofL b)) = decide (a = b) := decide_eq_decide.mpr ⟨fun h => ofL_inj (Sum.inr.inj h), fun h => by rw [h]⟩
section
variable {K : PySem.W.Frag} {H H' : Hp} {kvs : List (Key × V)} {p : Pg}
theorem EntV.mono {kv : Key × V} {e : Nm × Int × Int} (x : Ex H H') (h : EntV K H kv e) : EntV K H' kv e := ⟨h.1, let ⟨q, a, b⟩ := h.2; ⟨q, a, ex_t x b⟩⟩
theorem PgV.to (f : ∀ q xs, SqT K H q xs → SqT K H' q xs) (h : PgV K H kvs p) : PgV K H' kvs p := Paired.mapP h fun _ _ h => ⟨h.1, let ⟨q, a, b⟩ := h.2; ⟨q, a, f _ _ b⟩⟩
theorem PgV.mono (x : Ex H H') (h : PgV K H kvs p) : PgV K H' kvs p := h.to fun _ _ => ex_t x
theorem PgV.len (h : PgV K H kvs p) : kvs.length = p.length := Paired.length h
theorem PgV.any (n : Nm) (h : PgV K H kvs p) : (kvs.any fun kv => decide (kv.1 = .inr (ofL n))) = p.any fun e => decide (e.1 = n) := by
  unfold PgV at h
  induction h with
  | nil => rfl
  | cons h t ih => rw [List.any_cons, List.any_cons, ih, h.1, key_dec]
theorem PgV.get (n : Nm) (h : PgV K H kvs p) : (∃ q s, valV kvs (.inr (ofL n)) = some (.ref q) ∧ getP p n = some s ∧ SqT K H q [.int s.1, .int s.2]) ∨ (valV kvs (.inr (ofL n)) = none ∧ getP p n = none) := by
  unfold PgV at h
  induction h with
  | nil => exact .inr ⟨rfl, rfl⟩
  | @cons kv e kvs p h t ih =>
    obtain ⟨h1, q, h2, h3⟩ := h
    unfold valV getP
    rw [List.find?_cons, List.find?_cons, h1, key_dec]
    by_cases c : e.1 = n
    · rw [decide_eq_true c]
      exact .inl ⟨q, e.2, by show some kv.2 = _; rw [h2], rfl, h3⟩
    · rw [decide_eq_false c]
      exact ih
theorem PgV.snoc {n : Nm} {q : Addr} {s : Int × Int} (h : PgV K H kvs p) (hq : SqT K H q [.int s.1, .int s.2]) : PgV K H (kvs ++ [(.inr (ofL n), .ref q)]) (p ++ [(n, s)]) := by
  unfold PgV at h
  induction h with
  | nil => exact .cons ⟨rfl, q, rfl, hq⟩ .nil
  | cons h t ih => exact .cons h ih
theorem PgV.put {n : Nm} {q : Addr} {s : Int × Int} (h : PgV K H kvs p) (hq : SqT K H q [.int s.1, .int s.2]) : PgV K H (putK kvs (.inr (ofL n)) (.ref q)) (putP p n s) := by
  unfold putK putP
  rw [h.any n]
  split
  · unfold PgV at h
    induction h with
    | nil => exact .nil
    | @cons kv e kvs p h t ih =>
      rename_i c
      rw [List.map_cons, List.map_cons]
      refine .cons ?_ ?_
      · by_cases c : e.1 = n
        · rw [if_pos (by rw [h.1, c]), if_pos c]
          exact ⟨h.1, q, rfl, hq⟩
        · rw [if_neg (fun z => c (ofL_inj (Sum.inr.inj (h.1.symm.trans z)))), if_neg c]
          exact h
      · clear ih c h
        induction t with
        | nil => exact .nil
        | @cons kv e kvs p h t ih =>
          rw [List.map_cons, List.map_cons]
          refine .cons ?_ ih
          by_cases c : e.1 = n
          · rw [if_pos (by rw [h.1, c]), if_pos c]
            exact ⟨h.1, q, rfl, hq⟩
          · rw [if_neg (fun z => c (ofL_inj (Sum.inr.inj (h.1.symm.trans z)))), if_neg c]
            exact h
  · exact h.snoc hq
theorem PgV.keys (h : PgV K H kvs p) : kvs.map (·.1) = (p.map fun e => ofL e.1).map Sum.inr := by
  unfold PgV at h
  induction h with
  | nil => rfl
  | cons h t ih => rw [List.map_cons, List.map_cons, List.map_cons, ih, h.1]
theorem PgV.at {i : Nat} {kv : Key × V} (h : PgV K H kvs p) (hi : kvs[i]? = some kv) : ∃ e, p[i]? = some e ∧ EntV K H kv e := by
  unfold PgV at h
  induction h generalizing i with
  | nil => simp at hi
  | cons h t ih =>
    cases i with
    | zero =>
      obtain rfl := Option.some.inj hi
      exact ⟨_, rfl, h⟩
    | succ i => exact ih (by simpa using hi)
end
theorem putP_names (p : Pg) (n : Nm) (s : Int × Int) : (putP p n s).map (·.1) = if n ∈ p.map (·.1) then p.map (·.1) else p.map (·.1) ++ [n] := by
  unfold putP
  have e : (p.any fun e => decide (e.1 = n)) = decide (n ∈ p.map (·.1)) := by
    rw [Bool.eq_iff_iff, List.any_eq_true, decide_eq_true_iff, List.mem_map]
    constructor
    · rintro ⟨x, h1, h2⟩
      exact ⟨x, h1, of_decide_eq_true h2⟩
    · rintro ⟨x, h1, h2⟩
      exact ⟨x, h1, decide_eq_true h2⟩
  rw [e]
  by_cases h : n ∈ p.map (·.1)
  · rw [if_pos (decide_eq_true h), if_pos h, List.map_map]
    congr 1
    funext x
    show (if x.1 = n then (x.1, s) else x).1 = x.1
    split <;> rfl
  · rw [if_neg (by simpa using h), if_neg h, List.map_append]
    rfl
theorem putP_nd {p : Pg} {n : Nm} {s : Int × Int} (h : (p.map (·.1)).Nodup) : ((putP p n s).map (·.1)).Nodup := by
  rw [putP_names]
  split
  · exact h
  · rename_i c
    exact nd_snoc h c
theorem putP_len {p : Pg} {n : Nm} {s : Int × Int} : (putP p n s).length ≤ p.length + 1 := by
  have := congrArg List.length (putP_names p n s)
  rw [List.length_map] at this
  rw [this]
  split
  · rw [List.length_map]; omega
  · rw [List.length_append, List.length_map]; simp
theorem putP_ok {p : Pg} {n : Nm} {s : Int × Int} (h : ∀ e ∈ p, NmOk e.1) (hn : NmOk n) : ∀ e ∈ putP p n s, NmOk e.1 := by
  intro e he
  have : e.1 ∈ (putP p n s).map (·.1) := List.mem_map.mpr ⟨e, he, rfl⟩
  rw [putP_names] at this
  have hp : ∀ m ∈ p.map (·.1), NmOk m := fun m hm => by
    obtain ⟨x, h1, rfl⟩ := List.mem_map.mp hm
    exact h x h1
  split at this
  · exact hp _ this
  · rcases List.mem_append.mp this with h2 | h2
    · exact hp _ h2
    · rw [List.mem_singleton.mp h2]; exact hn
theorem getP_mem {p : Pg} (h : (p.map (·.1)).Nodup) : ∀ e ∈ p, getP p e.1 = some e.2 := by
  induction p with
  | nil => intro e he; cases he
  | cons a r ih =>
    intro e he
    rw [List.map_cons, List.nodup_cons] at h
    unfold getP
    rw [List.find?_cons]
    rcases List.mem_cons.mp he with rfl | he
    · rw [decide_eq_true rfl]
      rfl
    · rw [decide_eq_false (fun z => h.1 (by rw [z]; exact List.mem_map.mpr ⟨e, he, rfl⟩))]
      exact ih h.2 e he
/-- a page stands at d; it may be locked -/
def PgRd (K : PySem.W.Frag) (H : Hp) (d : Addr) (p : Pg) : Prop := ∃ kvs, Rd H d (.dK kvs) ∧ PgV K H kvs p ∧ (p.map (·.1)).Nodup ∧ (∀ e ∈ p, NmOk e.1) ∧ p.length ≤ 1000
def PgAt (K : PySem.W.Frag) (H : Hp) (d : Addr) (p : Pg) : Prop := ∃ kvs, H d = some (.dK kvs) ∧ PgV K H kvs p ∧ (p.map (·.1)).Nodup ∧ (∀ e ∈ p, NmOk e.1) ∧ p.length ≤ 1000
section
variable {K : PySem.W.Frag} {H H' : Hp} {d : Addr} {p : Pg}
theorem PgAt.rd (h : PgAt K H d p) : PgRd K H d p := let ⟨kvs, a, b⟩ := h; ⟨kvs, .inl a, b⟩
theorem PgRd.mono (x : Ex H H') (h : PgRd K H d p) : PgRd K H' d p := let ⟨kvs, a, b, c⟩ := h; ⟨kvs, ex_rd x a, b.mono x, c⟩
theorem PgAt.mono (x : Ex H H') (h : PgAt K H d p) : PgAt K H' d p := let ⟨kvs, a, b, c⟩ := h; ⟨kvs, x _ _ a, b.mono x, c⟩
end
section
variable {K : PySem.W.Frag} {H H' : Hp} {d : Addr}
theorem upd_t {q : Addr} {xs : List V} {kvs : List (Key × V)} {o : HO} (hd : H d = some (.dK kvs)) (h : SqT K H q xs) : SqT K (upd H d o) q xs := by
  rcases h with (h | ⟨o, h⟩) | h
  · exact .inl (.inl (by rw [upd_ne (ne_of h hd (by intro z; cases z))]; exact h))
  · exact .inl (.inr ⟨o, by rw [upd_ne (ne_of h hd (by intro z; cases z))]; exact h⟩)
  · exact .inr h
end

/-! ### sets of texts and numbers, by their members -/
section
open L2
def STo (P : Program) (w : World) (a : Addr) (S : Key → Bool) (n : Nat) : HO := .ext fun h => TSet (mixKind P w) h a S n
theorem sto_new {P : Program} {w : World} {H : Hp} {h : Heap} {a : Addr} {S : Key → Bool} {n : Nat} (R : TSet (mixKind P w) h a S n) : ObjOk P w H h a (STo P w a S n) :=
  ⟨R, let ⟨o, _, _, _, e, _⟩ := R; ⟨o, e⟩, fun _ _ p k => p.at k⟩
variable {X : Cx}
theorem sto_get {pins : List (Addr × Obj)} {σ : L2.St} {H : Hp} {s : Shared} {a : Addr} {S : Key → Bool} {n : Nat} (I : Inv X pins σ H s) (e : H a = some (STo X.prog X.w a S n)) : TSet (mixKind X.prog X.w) s.heap a S n := (I.hok a _ e).1
theorem pairs_any {prog : Program} {w : World} {κ : Type} [DecidableEq κ] {knd : KeyKind prog w κ} (j : κ) {es : List DictEntry} {vs : List (κ × Value)} (h : Pairs knd es vs) : (es.any fun e => knd.is j e.key) = vs.any fun kv => decide (kv.1 = j) := by
  induction h with
  | nil => rfl
  | cons h1 _ _ ih =>
    rw [List.any_cons, List.any_cons, ih, KeyKind.is_eq_decide h1 j]
    congr 1
    exact decide_eq_decide.mpr eq_comm
theorem pairs_len {prog : Program} {w : World} {κ : Type} [DecidableEq κ] {knd : KeyKind prog w κ} {es : List DictEntry} {vs : List (κ × Value)} (h : Pairs knd es vs) : es.length = vs.length := by
  induction h with
  | nil => rfl
  | cons _ _ _ ih => rw [List.length_cons, List.length_cons, ih]
theorem keys_any {α β : Type} {κ : Type} [DecidableEq κ] (j : κ) (f : α → κ) (g : β → κ) : ∀ {l : List α} {m : List β}, l.map f = m.map g → (l.any fun x => decide (f x = j)) = m.any fun y => decide (g y = j)
  | [], [], _ => rfl
  | [], _ :: _, h => by cases h
  | _ :: _, [], h => by cases h
  | x :: l, y :: m, h => by
    rw [List.map_cons, List.map_cons, List.cons.injEq] at h
    rw [List.any_cons, List.any_cons, h.1, keys_any j f g h.2]
def rSetDict (P : Program) (w : World) : List V → Hp → VK → Prop := fun xs H Q => ∃ (a : Addr) (kvs : List (Key × V)), xs = [.ref a] ∧ Rd H a (.dK kvs) ∧ kvs.length ≤ 1000 ∧
  ∀ p m, m ≤ kvs.length → H p = none → Q (.ref p) (upd H p (STo P w p (fun k => kvs.any fun kv => decide (kv.1 = k)) m))
theorem gc_set_dict (_ : X.calm = true) : CallR X (.type "set") (rSetDict X.prog X.w) := by
  intro pins s σ H xs us Q I r ⟨a, kvs, ex, hd, hl, q⟩
  subst ex
  obtain ⟨u, rfl, rx⟩ := vals1 r
  cases (show u = Value.ref a from rx)
  obtain ⟨_, lo, vs, rel, o, es, ep, ho, hex, hdd, hko, hpr, _⟩ := dk_rd I.hok hd
  have hk := rel.keys
  have hlen : es.size = kvs.length := by
    have h1 := pairs_len hpr
    have h2 := congrArg List.length hk
    rw [List.length_map, List.length_map] at h2
    rw [← Array.length_toList, h1, h2]
  refine call_set_dict (knd := mixKind X.prog X.w) lo ho hex.1 hdd (fun e he => ?_) (by omega) fun h' m keep hm T => ?_
  · obtain ⟨k, h1, h2⟩ := hko e (by simpa using he)
    refine ⟨k, h1, h2, ?_⟩
    rcases keyIs_shape h1 with ⟨i, t, _, e1⟩ | ⟨x, t, _, e1⟩ <;> rw [e1] <;> rfl
  · refine ⟨.ref s.heap.objs.size, _, I.laid (t' := s.toks) keep (Nat.le_refl _) (sto_new (T.cast (S' := fun k => kvs.any fun kv => decide (kv.1 = k)) fun j => ?_)), rfl, q _ m (by omega) (I.hok.fresh (Nat.le_refl _))⟩
    show (kvs.any fun kv => decide (kv.1 = j)) = _
    rw [pairs_any j hpr]
    exact keys_any j (fun kv : Key × V => kv.1) Prod.fst hk
def rOrSet (P : Program) (w : World) : R2 := fun x y H Q => ∃ (a b : Addr) (S S' : Key → Bool) (n n' : Nat), x = .ref a ∧ y = .ref b ∧ H a = some (STo P w a S n) ∧ H b = some (STo P w b S' n') ∧ b ≠ a ∧ n + n' ≤ 1000 ∧
  ∀ p m, m ≤ n + n' → H p = none → Q (.ref p) (upd H p (STo P w p (fun k => S k || S' k) m))
theorem gc_or_set : OpR X (binaryOp .BitOr) (rOrSet X.prog X.w) := by
  intro pins s σ H x y v u Q I rx ry ⟨a, b, S, S', n, n', ex, ey, ha, hb, hne, hl, q⟩
  subst ex ey
  cases (show v = Value.ref a from rx)
  cases (show u = Value.ref b from ry)
  refine or_sets (sto_get I ha) (sto_get I hb) hne (by omega) fun h' m keep hm T => ?_
  exact ⟨.ref s.heap.objs.size, _, I.laid (t' := s.toks) keep (Nat.le_refl _) (sto_new T), rfl, q _ m hm (I.hok.fresh (Nat.le_refl _))⟩
def rSortSet (P : Program) (w : World) : List V → Hp → VK → Prop := fun xs H Q => ∃ (a : Addr) (S : Key → Bool) (n : Nat), xs = [.ref a] ∧ H a = some (STo P w a S n) ∧ (∀ k, S k = true → ∃ z, k = .inr z) ∧ n ≤ 2000 ∧
  ∀ (ys : List Str) (p : Addr), (∀ z, z ∈ ys ↔ S (.inr z) = true) → ys.length = n → ys.Pairwise (fun x y => ¬ y.cps.toList < x.cps.toList) → H p = none → Q (.ref p) (upd H p (.lst (ys.map V.str)))
theorem gc_sortedSet (hcalm : X.calm = true) : CallR X (.builtin "sorted") (rSortSet X.prog X.w) := by
  intro pins s σ H xs us Q I r ⟨a, S, n, ex, ha, hS, hn, q⟩
  subst ex
  obtain ⟨u, rfl, rx⟩ := vals1 r
  cases (show u = Value.ref a from rx)
  obtain ⟨o, es, ep, t, ho, hex, hd, hel, hmem, hbd, hf, hsz, hr, hl⟩ := sto_get I ha
  refine Calls.call_function_entry PyProof.Rows.kind_sorted PyProof.Rows.plain_sorted PyProof.Rows.entry_sorted (PyProof.Rows.args_sorted1 _) (?_ : wpAny _ _ (Builtin.«sorted» _) _ _ _)
  unfold Builtin.«sorted»
  refine wpAny_bind (m := checkCount "sorted" 1 1 _) (wpAny_pure (wpAny_bind (collect_set (A := X.A.in1) (I.ok.hd hcalm) ⟨o, ho, hex.1, hd⟩ hf hbd hr hl fun s1 out k1 z1 g1 o1 pm => ?_)))
  have hol : out.length = n := by rw [pm.length_eq, List.length_map, Array.length_toList]; exact hsz
  have hall : ∀ v ∈ out, ∃ x t, v = Value.str x t := fun v hv => by
    obtain ⟨e, he, rfl⟩ := List.mem_map.mp (pm.mem_iff.mp hv)
    obtain ⟨⟨k, h1, _⟩, _⟩ := hel e he
    obtain ⟨z, rfl⟩ := hS k ((hmem k).mpr ⟨e, he, h1⟩)
    rcases keyIs_shape (k := .inr z) (v := e.2) h1 with ⟨i, t, e1, _⟩ | ⟨x, t, _, e2⟩
    · cases e1
    · exact ⟨x, t, e2⟩
  have hT := strs_of hall
  have hm0 : ∀ z : Str, z ∈ (out.map fun v => ofL (signsV v)) ↔ S (.inr z) = true := fun z => by
    rw [hmem, List.mem_map]
    constructor
    · rintro ⟨v, hv, rfl⟩
      obtain ⟨e, he, rfl⟩ := List.mem_map.mp (pm.mem_iff.mp hv)
      refine ⟨e, he, ?_⟩
      obtain ⟨x, t, e1⟩ := hall _ hv
      rw [e1]
      show Value.isStrOf (ofL x.cps.toList) (.str x t) = true
      rw [ofL_eta]
      exact beq_self_eq_true x
    · rintro ⟨e, he, h1⟩
      refine ⟨e.2, pm.mem_iff.mpr (List.mem_map.mpr ⟨e, he, rfl⟩), ?_⟩
      obtain ⟨t, e1⟩ := Value.isStrOf_shape (x := z) (v := e.2) h1
      rw [e1]
      exact ofL_eta z
  have I0 : Inv X pins σ H s1 := I.call' (ch := []) o1 (Un.kept k1) (I.hok.kept k1) (by rw [g1]; exact I.bare) (fun _ z => nomatch z)
  have hz : out.length ≤ sizeLine := by rw [hol]; exact sz_of (by omega)
  refine wpAny_bind (wpAny_newList (?_ : wpAny _ _ _ _ _ { s1 with heap := s1.heap.push (PyProof.Rows.seqObj "list" out.toArray 0) }) hz)
  have hoL : (s1.heap.push (PyProof.Rows.seqObj "list" out.toArray 0)).get? s1.heap.objs.size = some (PyProof.Rows.seqObj "list" out.toArray 0) := (Heap.get?_push_size _ rfl)
  refine wpAny_bind (wpAny_holding (wpAny_call_entry PyProof.Rows.slot_list_sort ⟨_, hoL, rfl⟩ PyProof.Rows.entry_list_sort (SrtO.list_sort_ord swo_sg hoL hz (fun h2 => sortable_sg hT h2) fun out2 a1 a2 => ⟨_, rfl, ?_⟩) (PyProof.Rows.args_list_sort _)))
  have hm : ∀ v ∈ out2, ∃ x t, v = Value.str x t := fun v hv => hall _ (a2.perm.mem_iff.mp hv)
  have hp : (out2.map fun v => ofL (signsV v)).Perm (out.map fun v => ofL (signsV v)) := a2.perm.map _
  obtain ⟨e', he'⟩ := PyProof.Rows.sortedHeap_at (vs := out) (out := out2.toArray) hoL
  have hlen : (out2.map fun v => ofL (signsV v)).length = n := by rw [hp.length_eq, List.length_map]; exact hol
  refine wpAny_pure ⟨_, rfl, .ref s1.heap.objs.size, upd H s1.heap.objs.size (.lst ((out2.map fun v => ofL (signsV v)).map V.str)), I0.laid (t' := s1.toks) (fun b u e => ?_) (Nat.le_refl _) (show ObjOk X.prog X.w _ _ _ (.lst _) from ⟨by rw [List.length_map, hlen]; exact sz_of (by omega), out2, e', vals_of_strs (strs_of hm), he'⟩), rfl, q _ _ (fun z => hp.mem_iff.trans (hm0 z)) hlen (pw_of a1) (I0.hok.fresh (Nat.le_refl _))⟩
  have hb := Heap.lt_size e
  have hb2 : b < (s1.heap.push (PyProof.Rows.seqObj "list" out.toArray 0)).objs.size := by rw [PyProof.Rows.size_push']; exact Nat.lt_succ_of_lt hb
  exact (PyProof.Rows.sortedHeap_old (Nat.ne_of_lt hb) hb2).trans (Heap.get?_push_of_some _ e)
end

--CUT cls
/-! ### classes of the program's own, errors, calls that may raise -/
open L2H in
structure FnP (P : Program) (w : World) (K : PySem.W.Frag) (mg : Str → Option Value) (base : Heap) (k : Nat) (f : Addr) (fd : FuncData) (ps : List Str) (sp : Addr → Value → Option Addr → Sp) : Prop where
  len : ∀ a cls d vs H Q E, sp a cls d vs H Q E → vs.length = ps.length
  run : ∀ (A : Around) (outer : List Env) (s : Shared) (H : Hp) (args : Args) (us : List Value) (vs : List V) (Q : VK) (E : XK) (p : Addr × Obj) (cls : Value) (d : Option Addr), RoomH k A → Zc cls d p.2 → (∃ z, p.2.data = .fields z) → PinOk outer H s p →
    Env0 P w K mg base A outer s H → BindsTo s fd args (ps.zip us) → Vals vs us → sp p.1 cls d vs H Q E → codeAny (model P w) A (.call (.ref f) args) (CR CX0 outer P w H s Q E) s
structure HasM (K : PySem.W.Frag) (C : Addr) (x qual : Str) (st : Stmt) (ps : List Str) (f : Addr) (fd : FuncData) : Prop where
  m : Meth K C x f
  F : Fun K x qual st f fd
  b : Binds K fd ps []
structure HasI (K : PySem.W.Frag) (qual : Str) (st : Stmt) (ps : List Str) (f : Addr) (fd : FuncData) : Prop where
  F : Fun K "__init__" qual st f fd
  b : Binds K fd ps []
structure ExcF (K : PySem.W.Frag) (mg : Str → Option Value) (x : Str) (C : Addr) : Prop where
  g : mg x = some (.ref C)
  q : PySem.W.excIn K C [.type "ValueError", .type "Exception", .type "BaseException", .type "object"] "ValueError.__new__" = true
  kp : PySem.W.keepIn K (.ref C) = true
  b : PySem.W.subIn K (.ref C) (.type "BaseException") = some true
  t : PySem.W.typeIn K (.ref C) = some (.type "type")
theorem room_suite {j k : Nat} {A : Around} {v : Value} (r : Room j A) (h : k ≤ j) : L2H.RoomH k (A.mark (some v)) :=
  ⟨by have := r.dp; show A.depth + 3 * k + 5 < _; omega, by have := r.un; show A.units + 16 * k + 200 < _; omega⟩
section
variable {P : Program} {w : World} {K : PySem.W.Frag} {mg : Str → Option Value} {base : Heap}
open L2H PyProof.Rows in
/-- a def by its body, an error p being handled around it -/
theorem fun_okP {x qual : Str} {st : Stmt} {f : Addr} {fd : FuncData} {N ps : List Str} {k : Nat} {sp : Addr → Value → Option Addr → Sp} (F : Fun K x qual st f fd) (S : FnScope N ps (defScope st)) (len : ∀ a cls d vs H Q E, sp a cls d vs H Q E → vs.length = ps.length)
    (hbody : ∀ (cdv : Value) (A : Around) (outer : List Env) (s : Shared) (H : Hp) (vs : List V) (Q : VK) (E : XK) (p : Addr × Obj) (cls : Value) (d : Option Addr), RoomH k (A.deeper (envOfC qual (defScope st) s.heap.objs.size f cdv)) → Zc cls d p.2 → (∃ z, p.2.data = .fields z) → sp p.1 cls d vs H Q E →
      ∃ t, PSs (cxH CX0 P w K mg base N qual (defScope st) f cdv A outer s H E p) (defBody st) t ∧ t { nx := fun _ H' => Q .non H', rt := Q } (L2.start N vs) H) : FnP P w K mg base (k + 1) f fd ps sp := by
  obtain ⟨oc, od, kV, doc, pm, an, cdv, ct, osl, rfl, lk, hcd⟩ := F.ex
  refine ⟨len, fun A outer s H args us vs Q E p cls d hr hz hf hpin e0 hb r hsp => ?_⟩
  have hlen := len _ _ _ _ _ _ _ hsp
  have hkind : ∀ y ∈ ps.zip us, (defScope st).names.lookup y.1 = some .local ∨ ((defScope st).names.lookup y.1 = some .cell ∧ ((cellsFrom (s.heap.objs.size + 1) (defScope st).names []).lookup y.1).isSome = true) := fun ⟨m, u⟩ hy =>
    (S.par m (List.of_mem_zip hy).1).imp id fun q => ⟨q, PySem.W.cellsFrom_some _ _ _ (.inl q)⟩
  have hKX : K.In s.heap := e0.mod.kin.keeps (fun b o e => (e0.bs b o e).1)
  have hlim : s.heap.NoLimit := e0.mod.nolimit.keeps (fun b o e => (e0.bs b o e).1)
  refine codeAny_call_function hr.depth (hKX _ _ lk) rfl S.co S.gen rfl (PySem.W.codeRec_of hKX hcd) (hb _ _ _ _ (wpAny_newFunctionEnv_cells S.kind hkind (fun env he s1 x => ?_)))
  subst he
  refine ⟨hlim.keeps x.toInCall.keep, codeAny_func ?_⟩
  obtain ⟨t, ht, hq⟩ := hbody cdv A outer s H vs Q E p cls d (hr.deeper _) hz hf hsp
  have I0 : Inv (cxH CX0 P w K mg base N qual (defScope st) f cdv A outer s H E p) [] (L2.start N vs) H s1 := inv_startH S hpin e0 hlen r x
  refine wpAny_mono (ht.run [] s1 (L2.start N vs) H _ I0 hq) (fun fl s2 hs => ?_) (fun e s2 hs => hs)
  have done : ∀ {σ2 : L2.St} {H2 : Hp} {v : V} {u : Value}, Inv (cxH CX0 P w K mg base N qual (defScope st) f cdv A outer s H E p) [] σ2 H2 s2 → RelV v u → Q v H2 → CE outer P w H s Q u s2 :=
    fun {σ2 H2 v u} J rv q => ⟨v, H2, J.os, J.bare, J.base, J.hok, rv, q⟩
  match fl, hs with
  | .ret u, ⟨v, σ2, H2, J, rv, q⟩ => exact done J rv q
  | .next, ⟨σ2, H2, J, q⟩ => exact done (v := V.non) (u := Value.none) J rfl q
  | .brk, ⟨_, _, _, q⟩ => exact q.elim
  | .cont, ⟨_, _, _, q⟩ => exact q.elim
end
section
variable {X : Cx} {CX : CXT} {k : Nat} {f C : Addr} {fd : FuncData} {ps : List Str} {sp : Sp} {x m : Str} {p pos apos : Pos} {e o : Expr} {es : List Expr} {ta : TE} {t : TA}
open L2H in
/-- f(e) within an except suite that holds the error at a -/
theorem pe_callP {a : Addr} {oe : Obj} {cls : Value} {d : Option Addr} {pn : List (Addr × Obj)} {sq : Addr → Value → Option Addr → Sp} (F : FnP X.prog X.w X.K X.mg X.base k f fd ps sq) (hr : RoomH k (X.A.mark (some (.ref a)))) (hz : Zc cls d oe) (hf : ∃ z, oe.data = .fields z)
    (hg : Gl X x) (hm : X.mg x = some (.ref f)) (hk : PySem.W.keepIn X.K (.ref f) = true) (hb : Binds X.K fd ps []) (ha : PA (X.suite a ((a, oe) :: pn)) (e :: es) t)
    (hdb : (x == ("__debug__" : Str)) = false := by decide) (he : starEach (e :: es) X.env = (false, eval e X.env) :: starEach es X.env := by rfl) (hpl : (backTo pos (starEach es X.env)).any (·.1) = false := by rfl) :
    PE (X.suite a ((a, oe) :: pn)) (.Call (.Name x p) (e :: es) [] pos) (tCall (sq a cls d) [] E0 t) := by
  refine ⟨fun pins s σ H Q I h => wpAny_Call_Name_kw (ld_glob I hg hm ?_ hdb)⟩
  refine PySem.W.callWith_K (h₀ := X.base) I.ok.mod.kin hk (thn (ha.run pos pins s σ H _ I h) (fun us s1 hs => ?_)) he hpl
  obtain ⟨vs, H1, I1, r, q⟩ := hs
  refine ⟨I1.kIn, ?_⟩
  rw [List.append_nil] at q
  have hl : us.length = ps.length := by rw [← r.length]; exact F.len _ _ _ _ _ _ _ q
  have hbt := hb s1 us I1.kIn (by rw [List.append_nil]; exact hl)
  rw [List.append_nil] at hbt
  have P1 := I1.pin (a, oe) (List.mem_append_left _ List.mem_cons_self)
  have hpin : PinOk (X.suite a ((a, oe) :: pn)).stack H1 s1 (a, oe) := ⟨P1.1, P1.2.1, (fun hm => (List.mem_cons.mp (I1.stkSub a hm)).elim P1.2.2.1 P1.2.2.2.1), P1.2.2.2.2⟩
  refine wpAny_call (codeAny_mono (F.run _ _ s1 H1 ⟨us, []⟩ us vs Q E0 (a, oe) cls d hr hz hf hpin I1.env0 hbt r q) (fun rr s2 hq => ?_))
  match rr, hq with
  | .error _, hq => exact hq.elim
  | .ok (.ret u), hq => exact I1.after hq
  | .ok .next, hq => exact hq.elim
  | .ok .brk, hq => exact hq.elim
  | .ok .cont, hq => exact hq.elim
/-- isinstance(e, C), e the error that is handled around -/
theorem call_isP {a D : Addr} {oe : Obj} (hp : (a, oe) ∈ X.pn) (hC : ExcC X.K D) (hz : Zc (.ref D) none oe) (hf : ∃ vs, oe.data = .fields vs) : CallR X (.builtin "isinstance") (rIsE X.K D a) := by
  rintro pins s σ H _ us Q I r ⟨c, cv, b, rfl, hcv, e, q⟩
  cases r with
  | cons rx rr => cases rr with
    | cons rt rr =>
      cases rr
      cases rx
      obtain rfl := hcv _ rt
      obtain ⟨hget, _⟩ := I.pin (a, oe) (List.mem_append_left _ hp)
      obtain ⟨vs, hv⟩ := hf
      have J : PySem.W.InstAt s.heap a oe D none := by
        obtain ⟨oc, od, oda, osl⟩ := oe
        dsimp only at hv
        have h1 : oc = .ref D := hz.1
        have h2 : od = none := hz.2
        subst h1 h2 hv
        exact ⟨hget, rfl, rfl, trivial⟩
      refine PySem.W.kia_one (PySem.W.handS_kitx_exc hC.hg hC.hk hC.hs hC.hd hC.ha hC.hn hC.ht hC.hm) I.kIn J e (fun z => nomatch z) fun tk => ?_
      exact ⟨.bl b, H, I.kept (t' := tk) fun _ _ z => z, rfl, q⟩
def tMethE (C : Addr) (m : Str) (sp : Sp) (E : L2.St → XK) (ta : TE) (t : TA) : TE := fun σ H Q => ta σ H fun x H1 => ∃ a dx fs, x = .ref a ∧ H1 a = some (.ins C dx fs) ∧ fs.lookup m = none ∧ t σ H1 fun vs H2 => sp (x :: vs) H2 Q (E σ)
/-- o.m(e, ..) in a try's body -/
theorem pe_methE {E : L2.St → XK} {pl : Sem Bool} (he : PE X o ta) (c : Cls X.K C) (hm : Meth X.K C m f) (F : FnOk X.prog X.w X.K X.mg X.base CX k f fd ps sp) (hr : Room k X.A) (hb : Binds X.K fd ps []) (hx : ∀ σ, PassesAt CX X σ (E σ)) (ha : PA X (e :: es) t)
    (hst : starEach (e :: es) X.env = (false, eval e X.env) :: starEach es X.env := by rfl) (hpl : (backTo pos (starEach es X.env)).any (·.1) = false := by rfl)
    (ht : eval (.Call (.Attribute o m apos) (e :: es) [] pos) X.env = (do let ov ← eval o X.env; standAt apos.atName; let (f, first) ← holding [ov] (getMethod ov m pl); callWith pos f first (backTo pos (starEach (e :: es) X.env)) (backToKw pos (keywordEach [] X.env))) := by rfl) :
    PE X (.Call (.Attribute o m apos) (e :: es) [] pos) (tMethE C m sp E ta t) := by
  refine ⟨fun pins s σ H Q I h => PySem.W.methodCall_KW (pl := pl) (thn (he.run pins s σ H _ I h) fun u s1 hs => ?_) ht⟩
  obtain ⟨_, H1, I1, rx, a, dx, fs, rfl, ea, l, q⟩ := hs
  cases (show u = Value.ref a from rx)
  refine getmeth_ok I1 ea c hm l (PySem.W.callWith_K (first := [.ref a]) (h₀ := X.base) I.ok.mod.kin hm.kp (thn (ha.run pos pins s1 σ H1 _ I1 q) fun us s2 hs2 => ?_) hst hpl)
  obtain ⟨vs, H2, I2, r, q2⟩ := hs2
  exact ⟨I2.kIn, run_fnS (us := .ref a :: us) (vs := .ref a :: vs) F hr hb (hx σ) I2 (.cons rfl r) q2⟩
def tMakeE (C : Addr) (sp : Sp) (E : L2.St → XK) (t : TA) : TE := fun σ H Q => t σ H fun vs H1 => ∀ x dx, H1 x = none → H1 dx = none → dx ≠ x →
  sp (.ref x :: vs) (upd (upd H1 dx (.own x)) x (.ins C dx [])) (fun v H2 => v = .non ∧ Q (.ref x) H2) (E σ)
theorem run_makeS {pins : List (Addr × Obj)} {σ : L2.St} {H : Hp} {s : Shared} {Q : VK} {E : XK} {us : List Value} {vs : List V} (M : Mk X.K C f) (F : FnOk X.prog X.w X.K X.mg X.base CX k f fd ps sp) (hr : Room (k + 1) X.A) (hb : Binds X.K fd ps [])
    (hx : PassesAt CX X σ E) (I : Inv X pins σ H s) (r : Vals vs us) (h : ∀ x dx, H x = none → H dx = none → dx ≠ x → sp (.ref x :: vs) (upd (upd H dx (.own x)) x (.ins C dx [])) (fun v H2 => v = .non ∧ Q (.ref x) H2) E) :
    wpAny (model X.prog X.w) X.A (call (.ref C) us) (EP X pins σ Q) X.xe s := by
  have hq := h (s.heap.objs.size + 1) s.heap.objs.size (I.hok.fresh (Nat.le_succ _)) (I.hok.fresh (Nat.le_refl _)) (Nat.ne_of_lt (Nat.lt_succ_self _))
  have J := Inv.made (C := C) I
  have r' : Vals (V.ref (s.heap.objs.size + 1) :: vs) (Value.ref (s.heap.objs.size + 1) :: us) := .cons rfl r
  have hl : (Value.ref (s.heap.objs.size + 1) :: us).length = ps.length := by rw [← r'.length]; exact F.len _ _ _ _ hq
  have hbt := hb _ (Value.ref (s.heap.objs.size + 1) :: us) J.kIn (by rw [List.append_nil]; exact hl)
  rw [List.append_nil] at hbt
  refine wpAny_call (make_map (f := f) I.kIn M.makes M.init (beq_iff_eq.mp M.fn) (codeAny_mono (F.run _ X.stack _ _ ⟨_, []⟩ _ _ _ E (hr.make C us []) (J.env0.make C us []) hbt r' hq) (fun rr s' hq' => ?_)))
  match rr, hq' with
  | .error e, hq' => exact hx pins _ _ e s' J hq'
  | .ok (.ret u), hq' =>
    obtain ⟨_, H', I3, rv, rfl, q3⟩ := J.after hq'
    exact ⟨rv, V.ref (s.heap.objs.size + 1), H', I3, rfl, q3⟩
  | .ok .next, hq' => exact hq'.elim
  | .ok .brk, hq' => exact hq'.elim
  | .ok .cont, hq' => exact hq'.elim
/-- C(e, ..) in a try's body -/
theorem pe_makeE {E : L2.St → XK} (M : Mk X.K C f) (F : FnOk X.prog X.w X.K X.mg X.base CX k f fd ps sp) (hr : Room (k + 1) X.A) (hg : Gl X x) (hm : X.mg x = some (.ref C)) (hb : Binds X.K fd ps []) (hx : ∀ σ, PassesAt CX X σ (E σ)) (ha : PA X (e :: es) t)
    (hdb : (x == ("__debug__" : Str)) = false := by decide) (he : starEach (e :: es) X.env = (false, eval e X.env) :: starEach es X.env := by rfl) (hpl : (backTo pos (starEach es X.env)).any (·.1) = false := by rfl) :
    PE X (.Call (.Name x p) (e :: es) [] pos) (tMakeE C sp E t) := by
  refine ⟨fun pins s σ H Q I h => wpAny_Call_Name_kw (ld_glob I hg hm ?_ hdb)⟩
  refine PySem.W.callWith_K (h₀ := X.base) I.ok.mod.kin M.kp (thn (ha.run pos pins s σ H _ I h) (fun us s1 hs => ?_)) he hpl
  obtain ⟨vs, H1, I1, r, q⟩ := hs
  exact ⟨I1.kIn, run_makeS M F hr hb (hx σ) I1 r q⟩
end

--CUT head
/-- what isinstance asks of an own class -/
structure IsiC (K : PySem.W.Frag) (C : Addr) : Prop where
  a : PySem.W.findIn K (.ref C) "__class__" = some (some (.builtin "object.__class__"))
  n : PySem.W.specialIn K (.builtin "object.__class__") "__get__" = some (some (.builtin "getset_descriptor.__get__"))
  t : PySem.W.takesIn K (.builtin "object.__class__") = some true
  m : PySem.W.mroIn K C (.type "object") = some true
  k : PySem.W.kitOne K (.ref C) (.ref C) = some true
theorem rc_isiC {K : PySem.W.Frag} {C a dx : Addr} {fs : List (Str × V)} {H : Hp} (h : IsiC K C) (cl : Cls K C) (ha : H a = some (.ins C dx fs)) : RC (rIsi K) [.ref a, .ref C] H (.bl true) := fun H1 e _ q =>
  ⟨.ref a, .ref C, .ref C, .ref C, true, rfl, .own C, .base (.ins (e _ _ ha) cl h.a h.n h.t h.m), h.k, q H1 (Ex.refl H1)⟩

def top (i : Nat) : Stmt := PySem.Challenge.pw_gossipcount_k12_rooms.main.body.getD i (.Pass ⟨0, 0, 0, 0⟩)
abbrev s_is_name : Stmt := top 10
theorem sc_is_name : FnScope ["thing", "sign"] ["thing"] (defScope s_is_name) := ⟨rfl, rfl, rfl, by decide +kernel, rfl, by decide +kernel, by decide +kernel⟩
abbrev s_is_whole : Stmt := top 11
theorem sc_is_whole : FnScope ["thing"] ["thing"] (defScope s_is_whole) := ⟨rfl, rfl, rfl, by decide +kernel, rfl, by decide +kernel, by decide +kernel⟩
abbrev s_is_amount : Stmt := top 12
theorem sc_is_amount : FnScope ["thing"] ["thing"] (defScope s_is_amount) := ⟨rfl, rfl, rfl, by decide +kernel, rfl, by decide +kernel, by decide +kernel⟩
abbrev s_is_share : Stmt := top 16
theorem sc_is_share : FnScope ["thing", "number"] ["thing"] (defScope s_is_share) := ⟨rfl, rfl, rfl, by decide +kernel, rfl, by decide +kernel, by decide +kernel⟩
abbrev s_greater : Stmt := top 17
theorem sc_greater : FnScope ["one", "other"] ["one", "other"] (defScope s_greater) := ⟨rfl, rfl, rfl, by decide +kernel, rfl, by decide +kernel, by decide +kernel⟩
abbrev s_reaches : Stmt := top 18
theorem sc_reaches : FnScope ["one", "other"] ["one", "other"] (defScope s_reaches) := ⟨rfl, rfl, rfl, by decide +kernel, rfl, by decide +kernel, by decide +kernel⟩
abbrev s_net : Stmt := top 19
theorem sc_net : FnScope ["share"] ["share"] (defScope s_net) := ⟨rfl, rfl, rfl, by decide +kernel, rfl, by decide +kernel, by decide +kernel⟩
abbrev s_is_page : Stmt := top 22
theorem sc_is_page : FnScope ["thing", "name", "share"] ["thing"] (defScope s_is_page) := ⟨rfl, rfl, rfl, by decide +kernel, rfl, by decide +kernel, by decide +kernel⟩
abbrev s_is_entry : Stmt := top 23
theorem sc_is_entry : FnScope ["name", "share"] ["name", "share"] (defScope s_is_entry) := ⟨rfl, rfl, rfl, by decide +kernel, rfl, by decide +kernel, by decide +kernel⟩
abbrev s_share_of : Stmt := top 24
theorem sc_share_of : FnScope ["page", "name"] ["page", "name"] (defScope s_share_of) := ⟨rfl, rfl, rfl, by decide +kernel, rfl, by decide +kernel, by decide +kernel⟩
abbrev s_joined : Stmt := top 25
theorem sc_joined : FnScope ["one", "other", "names", "name"] ["one", "other"] (defScope s_joined) := ⟨rfl, rfl, rfl, by decide +kernel, rfl, by decide +kernel, by decide +kernel⟩
abbrev s_lacking : Stmt := top 26
theorem sc_lacking : FnScope ["one", "other", "name"] ["one", "other"] (defScope s_lacking) := ⟨rfl, rfl, rfl, by decide +kernel, rfl, by decide +kernel, by decide +kernel⟩
abbrev s_total : Stmt := top 27
theorem sc_total : FnScope ["page", "name"] ["page"] (defScope s_total) := ⟨rfl, rfl, rfl, by decide +kernel, rfl, by decide +kernel, by decide +kernel⟩
abbrev s_Hand_init : Stmt := inClass (top 29) 0
theorem sc_Hand_init : FnScope ["self", "name"] ["self", "name"] (defScope s_Hand_init) := ⟨rfl, rfl, rfl, by decide +kernel, rfl, by decide +kernel, by decide +kernel⟩
abbrev s_Hand_up : Stmt := inClass (top 29) 1
theorem sc_Hand_up : FnScope ["self", "many"] ["self", "many"] (defScope s_Hand_up) := ⟨rfl, rfl, rfl, by decide +kernel, rfl, by decide +kernel, by decide +kernel⟩
abbrev s_Hand_down : Stmt := inClass (top 29) 2
theorem sc_Hand_down : FnScope ["self", "many"] ["self", "many"] (defScope s_Hand_down) := ⟨rfl, rfl, rfl, by decide +kernel, rfl, by decide +kernel, by decide +kernel⟩
abbrev s_Hand_add : Stmt := inClass (top 29) 3
theorem sc_Hand_add : FnScope ["self", "raised", "lowered", "share"] ["self", "raised", "lowered"] (defScope s_Hand_add) := ⟨rfl, rfl, rfl, by decide +kernel, rfl, by decide +kernel, by decide +kernel⟩
abbrev s_Hand_page : Stmt := inClass (top 29) 4
theorem sc_Hand_page : FnScope ["self"] ["self"] (defScope s_Hand_page) := ⟨rfl, rfl, rfl, by decide +kernel, rfl, by decide +kernel, by decide +kernel⟩
abbrev s_Hand_told : Stmt := inClass (top 29) 5
theorem sc_Hand_told : FnScope ["self"] ["self"] (defScope s_Hand_told) := ⟨rfl, rfl, rfl, by decide +kernel, rfl, by decide +kernel, by decide +kernel⟩
abbrev s_Hand_letter : Stmt := inClass (top 29) 6
theorem sc_Hand_letter : FnScope ["self", "page"] ["self", "page"] (defScope s_Hand_letter) := ⟨rfl, rfl, rfl, by decide +kernel, rfl, by decide +kernel, by decide +kernel⟩
abbrev s_Hand_trusts : Stmt := inClass (top 29) 7
theorem sc_Hand_trusts : FnScope ["self", "page"] ["self", "page"] (defScope s_Hand_trusts) := ⟨rfl, rfl, rfl, by decide +kernel, rfl, by decide +kernel, by decide +kernel⟩
abbrev s_Hand_hear : Stmt := inClass (top 29) 8
theorem sc_Hand_hear : FnScope ["self", "page"] ["self", "page"] (defScope s_Hand_hear) := ⟨rfl, rfl, rfl, by decide +kernel, rfl, by decide +kernel, by decide +kernel⟩
abbrev s_Hand_learn : Stmt := inClass (top 29) 9
theorem sc_Hand_learn : FnScope ["self", "page", "news"] ["self", "page"] (defScope s_Hand_learn) := ⟨rfl, rfl, rfl, by decide +kernel, rfl, by decide +kernel, by decide +kernel⟩
abbrev s_check_amount : Stmt := top 30
theorem sc_check_amount : FnScope ["thing"] ["thing"] (defScope s_check_amount) := ⟨rfl, rfl, rfl, by decide +kernel, rfl, by decide +kernel, by decide +kernel⟩
abbrev s_check_page : Stmt := top 31
theorem sc_check_page : FnScope ["thing"] ["thing"] (defScope s_check_page) := ⟨rfl, rfl, rfl, by decide +kernel, rfl, by decide +kernel, by decide +kernel⟩
abbrev s_Room_init : Stmt := inClass (top 33) 0
theorem sc_Room_init : FnScope ["self", "names", "name", "newcomer"] ["self", "names"] (defScope s_Room_init) := ⟨rfl, rfl, rfl, by decide +kernel, rfl, by decide +kernel, by decide +kernel⟩
abbrev s_Room_hand : Stmt := inClass (top 33) 1
theorem sc_Room_hand : FnScope ["self", "name"] ["self", "name"] (defScope s_Room_hand) := ⟨rfl, rfl, rfl, by decide +kernel, rfl, by decide +kernel, by decide +kernel⟩
abbrev s_Room_meet : Stmt := inClass (top 33) 2
theorem sc_Room_meet : FnScope ["self", "one", "other", "first", "second", "first_page", "second_page"] ["self", "one", "other"] (defScope s_Room_meet) := ⟨rfl, rfl, rfl, by decide +kernel, rfl, by decide +kernel, by decide +kernel⟩
abbrev s_Room_settled : Stmt := inClass (top 33) 3
theorem sc_Room_settled : FnScope ["self", "pages", "hand", "page"] ["self"] (defScope s_Room_settled) := ⟨rfl, rfl, rfl, by decide +kernel, rfl, by decide +kernel, by decide +kernel⟩
abbrev s_law_cell_at : Stmt := top 35
theorem sc_law_cell_at : FnScope ["_law_script", "_law_k"] ["_law_script", "_law_k"] (defScope s_law_cell_at) := ⟨rfl, rfl, rfl, by decide +kernel, rfl, by decide +kernel, by decide +kernel⟩
abbrev s_law_whole : Stmt := top 36
theorem sc_law_whole : FnScope ["_law_found"] ["_law_found"] (defScope s_law_whole) := ⟨rfl, rfl, rfl, by decide +kernel, rfl, by decide +kernel, by decide +kernel⟩
abbrev s_law_share : Stmt := top 37
theorem sc_law_share : FnScope ["_law_found", "_law_due"] ["_law_found", "_law_due"] (defScope s_law_share) := ⟨rfl, rfl, rfl, by decide +kernel, rfl, by decide +kernel, by decide +kernel⟩
abbrev s_law_name_by : Stmt := top 38
theorem sc_law_name_by : FnScope ["_law_cell", "_law_signs", "_law_step", "_law_word", "_law_k"] ["_law_cell"] (defScope s_law_name_by) := ⟨rfl, rfl, rfl, by decide +kernel, rfl, by decide +kernel, by decide +kernel⟩
abbrev s_law_same : Stmt := top 39
theorem sc_law_same : FnScope ["_law_found", "_law_due", "_law_name"] ["_law_found", "_law_due"] (defScope s_law_same) := ⟨rfl, rfl, rfl, by decide +kernel, rfl, by decide +kernel, by decide +kernel⟩
abbrev s_law_joined : Stmt := top 40
theorem sc_law_joined : FnScope ["_law_one", "_law_other", "_law_page", "_law_name", "_law_mine", "_law_share_here", "_law_first", "_law_second"] ["_law_one", "_law_other"] (defScope s_law_joined) := ⟨rfl, rfl, rfl, by decide +kernel, rfl, by decide +kernel, by decide +kernel⟩
abbrev s_law_names : Stmt := top 41
theorem sc_law_names : FnScope ["_law_script", "_law_size", "_law_cell", "_law_letters", "_law_found", "_law_k", "_law_mark", "_law_word", "_law_at"] ["_law_script", "_law_size"] (defScope s_law_names) := ⟨rfl, rfl, rfl, by decide +kernel, rfl, by decide +kernel, by decide +kernel⟩
abbrev s_law_truth : Stmt := top 42
theorem sc_law_truth : FnScope ["_law_found", "_law_due"] ["_law_found", "_law_due"] (defScope s_law_truth) := ⟨rfl, rfl, rfl, by decide +kernel, rfl, by decide +kernel, by decide +kernel⟩
abbrev s_law_kind : Stmt := top 43
theorem sc_law_kind : FnScope ["_law_error", "_law_words"] ["_law_error"] (defScope s_law_kind) := ⟨rfl, rfl, rfl, by decide +kernel, rfl, by decide +kernel, by decide +kernel⟩
abbrev s_law_total : Stmt := top 44
theorem sc_law_total : FnScope ["_law_page", "_law_found", "_law_name"] ["_law_page"] (defScope s_law_total) := ⟨rfl, rfl, rfl, by decide +kernel, rfl, by decide +kernel, by decide +kernel⟩
abbrev s_law_count : Stmt := top 45
theorem sc_law_count : FnScope ["_law_one", "_law_other", "_law_many", "_law_name", "_law_mine"] ["_law_one", "_law_other"] (defScope s_law_count) := ⟨rfl, rfl, rfl, by decide +kernel, rfl, by decide +kernel, by decide +kernel⟩
abbrev s_law_trusts : Stmt := top 46
theorem sc_law_trusts : FnScope ["_law_pages", "_law_name", "_law_other", "_law_mine", "_law_share_here"] ["_law_pages", "_law_name", "_law_other"] (defScope s_law_trusts) := ⟨rfl, rfl, rfl, by decide +kernel, rfl, by decide +kernel, by decide +kernel⟩
abbrev s_law_met : Stmt := top 47
theorem sc_law_met : FnScope ["_law_room", "_law_one", "_law_other", "_law_error"] ["_law_room", "_law_one", "_law_other"] (defScope s_law_met) := ⟨rfl, rfl, rfl, by decide +kernel, rfl, by decide +kernel, by decide +kernel⟩
abbrev s_law_handless : Stmt := top 48
theorem sc_law_handless : FnScope ["_law_room", "_law_name", "_law_error"] ["_law_room", "_law_name"] (defScope s_law_handless) := ⟨rfl, rfl, rfl, by decide +kernel, rfl, by decide +kernel, by decide +kernel⟩
abbrev s_law_roomless : Stmt := top 49
theorem sc_law_roomless : FnScope ["_law_names_here", "_law_cell", "_law_row", "_law_at", "_law_odd", "_law_error"] ["_law_names_here", "_law_cell"] (defScope s_law_roomless) := ⟨rfl, rfl, rfl, by decide +kernel, rfl, by decide +kernel, by decide +kernel⟩
abbrev s_law_meeting : Stmt := top 50
theorem sc_law_meeting : FnScope ["_law_room", "_law_pages", "_law_one", "_law_other", "_law_found", "_law_due", "_law_both"] ["_law_room", "_law_pages", "_law_one", "_law_other"] (defScope s_law_meeting) := ⟨rfl, rfl, rfl, by decide +kernel, rfl, by decide +kernel, by decide +kernel⟩
abbrev s_law_told : Stmt := top 51
theorem sc_law_told : FnScope ["_law_room", "_law_pages", "_law_one", "_law_other", "_law_hand", "_law_due", "_law_name", "_law_share_here", "_law_theirs"] ["_law_room", "_law_pages", "_law_one", "_law_other"] (defScope s_law_told) := ⟨rfl, rfl, rfl, by decide +kernel, rfl, by decide +kernel, by decide +kernel⟩
abbrev s_law_strange : Stmt := top 52
theorem sc_law_strange : FnScope ["_law_names_here", "_law_cell", "_law_name", "_law_odd"] ["_law_names_here", "_law_cell"] (defScope s_law_strange) := ⟨rfl, rfl, rfl, by decide +kernel, rfl, by decide +kernel, by decide +kernel⟩
abbrev s_law_deed : Stmt := top 53
theorem sc_law_deed : FnScope ["_law_room", "_law_pages", "_law_names_here", "_law_cell", "_law_k", "_law_one", "_law_other", "_law_many", "_law_share_here", "_law_told_here", "_law_more"] ["_law_room", "_law_pages", "_law_names_here", "_law_cell", "_law_k"] (defScope s_law_deed) := ⟨rfl, rfl, rfl, by decide +kernel, rfl, by decide +kernel, by decide +kernel⟩
abbrev s_law : Stmt := top 54
theorem sc_law : FnScope ["_law_script", "_law_size", "_law_names_here", "_law_handed", "_law_room", "_law_pages", "_law_name", "_law_k", "_law_alike"] ["_law_script"] (defScope s_law) := ⟨rfl, rfl, rfl, by decide +kernel, rfl, by decide +kernel, by decide +kernel⟩
structure Txt (K : PySem.W.Frag) (mg : Str → Option Value) where
  c_GossipError : Addr
  x_GossipError : ExcF K mg "GossipError" c_GossipError
  c_NoName : Addr
  x_NoName : ExcF K mg "NoName" c_NoName
  c_NoAmount : Addr
  x_NoAmount : ExcF K mg "NoAmount" c_NoAmount
  c_NoPage : Addr
  x_NoPage : ExcF K mg "NoPage" c_NoPage
  c_Forged : Addr
  x_Forged : ExcF K mg "Forged" c_Forged
  c_NoNote : Addr
  x_NoNote : ExcF K mg "NoNote" c_NoNote
  e_NoName : PySem.W.exmOne K (.ref c_NoName) (.ref c_GossipError) = some true
  k_NoName : ExcC K c_NoName
  kv_NoName : PySem.W.kitOne K (.ref c_NoName) (.type "ValueError") = some true
  ki_NoName_NoName : PySem.W.kitOne K (.ref c_NoName) (.ref c_NoName) = some true
  ki_NoName_NoAmount : PySem.W.kitOne K (.ref c_NoName) (.ref c_NoAmount) = some false
  ki_NoName_NoPage : PySem.W.kitOne K (.ref c_NoName) (.ref c_NoPage) = some false
  ki_NoName_Forged : PySem.W.kitOne K (.ref c_NoName) (.ref c_Forged) = some false
  ki_NoName_NoNote : PySem.W.kitOne K (.ref c_NoName) (.ref c_NoNote) = some false
  e_Forged : PySem.W.exmOne K (.ref c_Forged) (.ref c_GossipError) = some true
  k_Forged : ExcC K c_Forged
  kv_Forged : PySem.W.kitOne K (.ref c_Forged) (.type "ValueError") = some true
  ki_Forged_NoName : PySem.W.kitOne K (.ref c_Forged) (.ref c_NoName) = some false
  ki_Forged_NoAmount : PySem.W.kitOne K (.ref c_Forged) (.ref c_NoAmount) = some false
  ki_Forged_NoPage : PySem.W.kitOne K (.ref c_Forged) (.ref c_NoPage) = some false
  ki_Forged_Forged : PySem.W.kitOne K (.ref c_Forged) (.ref c_Forged) = some true
  ki_Forged_NoNote : PySem.W.kitOne K (.ref c_Forged) (.ref c_NoNote) = some false
  c_Hand : Addr
  cl_Hand : Cls K c_Hand
  g_Hand : mg "Hand" = some (.ref c_Hand)
  ic_Hand : IsiC K c_Hand
  na_Hand_name : NoAttr K c_Hand "name"
  na_Hand_page : NoAttr K c_Hand "_page"
  c_Room : Addr
  cl_Room : Cls K c_Room
  g_Room : mg "Room" = some (.ref c_Room)
  na_Room_hands : NoAttr K c_Room "_hands"
  a_is_name : Addr
  d_is_name : FuncData
  h_is_name : Has K mg "is_name" s_is_name ["thing"] a_is_name d_is_name
  a_is_whole : Addr
  d_is_whole : FuncData
  h_is_whole : Has K mg "is_whole" s_is_whole ["thing"] a_is_whole d_is_whole
  a_is_amount : Addr
  d_is_amount : FuncData
  h_is_amount : Has K mg "is_amount" s_is_amount ["thing"] a_is_amount d_is_amount
  a_is_share : Addr
  d_is_share : FuncData
  h_is_share : Has K mg "is_share" s_is_share ["thing"] a_is_share d_is_share
  a_greater : Addr
  d_greater : FuncData
  h_greater : Has K mg "greater" s_greater ["one", "other"] a_greater d_greater
  a_reaches : Addr
  d_reaches : FuncData
  h_reaches : Has K mg "reaches" s_reaches ["one", "other"] a_reaches d_reaches
  a_net : Addr
  d_net : FuncData
  h_net : Has K mg "net" s_net ["share"] a_net d_net
  a_is_page : Addr
  d_is_page : FuncData
  h_is_page : Has K mg "is_page" s_is_page ["thing"] a_is_page d_is_page
  a_is_entry : Addr
  d_is_entry : FuncData
  h_is_entry : Has K mg "_is_entry" s_is_entry ["name", "share"] a_is_entry d_is_entry
  a_share_of : Addr
  d_share_of : FuncData
  h_share_of : Has K mg "share_of" s_share_of ["page", "name"] a_share_of d_share_of
  a_joined : Addr
  d_joined : FuncData
  h_joined : Has K mg "joined" s_joined ["one", "other"] a_joined d_joined
  a_lacking : Addr
  d_lacking : FuncData
  h_lacking : Has K mg "lacking" s_lacking ["one", "other"] a_lacking d_lacking
  a_total : Addr
  d_total : FuncData
  h_total : Has K mg "total" s_total ["page"] a_total d_total
  a_Hand_init : Addr
  d_Hand_init : FuncData
  h_Hand_init : HasI K "Hand.__init__" s_Hand_init ["self", "name"] a_Hand_init d_Hand_init
  mk_Hand : Mk K c_Hand a_Hand_init
  a_Hand_up : Addr
  d_Hand_up : FuncData
  h_Hand_up : HasM K c_Hand "up" "Hand.up" s_Hand_up ["self", "many"] a_Hand_up d_Hand_up
  a_Hand_down : Addr
  d_Hand_down : FuncData
  h_Hand_down : HasM K c_Hand "down" "Hand.down" s_Hand_down ["self", "many"] a_Hand_down d_Hand_down
  a_Hand_add : Addr
  d_Hand_add : FuncData
  h_Hand_add : HasM K c_Hand "_add" "Hand._add" s_Hand_add ["self", "raised", "lowered"] a_Hand_add d_Hand_add
  a_Hand_page : Addr
  d_Hand_page : FuncData
  h_Hand_page : HasM K c_Hand "page" "Hand.page" s_Hand_page ["self"] a_Hand_page d_Hand_page
  a_Hand_told : Addr
  d_Hand_told : FuncData
  h_Hand_told : HasM K c_Hand "told" "Hand.told" s_Hand_told ["self"] a_Hand_told d_Hand_told
  a_Hand_letter : Addr
  d_Hand_letter : FuncData
  h_Hand_letter : HasM K c_Hand "letter" "Hand.letter" s_Hand_letter ["self", "page"] a_Hand_letter d_Hand_letter
  a_Hand_trusts : Addr
  d_Hand_trusts : FuncData
  h_Hand_trusts : HasM K c_Hand "trusts" "Hand.trusts" s_Hand_trusts ["self", "page"] a_Hand_trusts d_Hand_trusts
  a_Hand_hear : Addr
  d_Hand_hear : FuncData
  h_Hand_hear : HasM K c_Hand "hear" "Hand.hear" s_Hand_hear ["self", "page"] a_Hand_hear d_Hand_hear
  a_Hand_learn : Addr
  d_Hand_learn : FuncData
  h_Hand_learn : HasM K c_Hand "learn" "Hand.learn" s_Hand_learn ["self", "page"] a_Hand_learn d_Hand_learn
  a_check_amount : Addr
  d_check_amount : FuncData
  h_check_amount : Has K mg "_check_amount" s_check_amount ["thing"] a_check_amount d_check_amount
  a_check_page : Addr
  d_check_page : FuncData
  h_check_page : Has K mg "_check_page" s_check_page ["thing"] a_check_page d_check_page
  a_Room_init : Addr
  d_Room_init : FuncData
  h_Room_init : HasI K "Room.__init__" s_Room_init ["self", "names"] a_Room_init d_Room_init
  mk_Room : Mk K c_Room a_Room_init
  a_Room_hand : Addr
  d_Room_hand : FuncData
  h_Room_hand : HasM K c_Room "hand" "Room.hand" s_Room_hand ["self", "name"] a_Room_hand d_Room_hand
  a_Room_meet : Addr
  d_Room_meet : FuncData
  h_Room_meet : HasM K c_Room "meet" "Room.meet" s_Room_meet ["self", "one", "other"] a_Room_meet d_Room_meet
  a_Room_settled : Addr
  d_Room_settled : FuncData
  h_Room_settled : HasM K c_Room "settled" "Room.settled" s_Room_settled ["self"] a_Room_settled d_Room_settled
  a_law_cell_at : Addr
  d_law_cell_at : FuncData
  h_law_cell_at : Has K mg "_law_cell_at" s_law_cell_at ["_law_script", "_law_k"] a_law_cell_at d_law_cell_at
  a_law_whole : Addr
  d_law_whole : FuncData
  h_law_whole : Has K mg "_law_whole" s_law_whole ["_law_found"] a_law_whole d_law_whole
  a_law_share : Addr
  d_law_share : FuncData
  h_law_share : Has K mg "_law_share" s_law_share ["_law_found", "_law_due"] a_law_share d_law_share
  a_law_name_by : Addr
  d_law_name_by : FuncData
  h_law_name_by : Has K mg "_law_name_by" s_law_name_by ["_law_cell"] a_law_name_by d_law_name_by
  a_law_same : Addr
  d_law_same : FuncData
  h_law_same : Has K mg "_law_same" s_law_same ["_law_found", "_law_due"] a_law_same d_law_same
  a_law_joined : Addr
  d_law_joined : FuncData
  h_law_joined : Has K mg "_law_joined" s_law_joined ["_law_one", "_law_other"] a_law_joined d_law_joined
  a_law_names : Addr
  d_law_names : FuncData
  h_law_names : Has K mg "_law_names" s_law_names ["_law_script", "_law_size"] a_law_names d_law_names
  a_law_truth : Addr
  d_law_truth : FuncData
  h_law_truth : Has K mg "_law_truth" s_law_truth ["_law_found", "_law_due"] a_law_truth d_law_truth
  a_law_kind : Addr
  d_law_kind : FuncData
  h_law_kind : Has K mg "_law_kind" s_law_kind ["_law_error"] a_law_kind d_law_kind
  a_law_total : Addr
  d_law_total : FuncData
  h_law_total : Has K mg "_law_total" s_law_total ["_law_page"] a_law_total d_law_total
  a_law_count : Addr
  d_law_count : FuncData
  h_law_count : Has K mg "_law_count" s_law_count ["_law_one", "_law_other"] a_law_count d_law_count
  a_law_trusts : Addr
  d_law_trusts : FuncData
  h_law_trusts : Has K mg "_law_trusts" s_law_trusts ["_law_pages", "_law_name", "_law_other"] a_law_trusts d_law_trusts
  a_law_met : Addr
  d_law_met : FuncData
  h_law_met : Has K mg "_law_met" s_law_met ["_law_room", "_law_one", "_law_other"] a_law_met d_law_met
  a_law_handless : Addr
  d_law_handless : FuncData
  h_law_handless : Has K mg "_law_handless" s_law_handless ["_law_room", "_law_name"] a_law_handless d_law_handless
  a_law_roomless : Addr
  d_law_roomless : FuncData
  h_law_roomless : Has K mg "_law_roomless" s_law_roomless ["_law_names_here", "_law_cell"] a_law_roomless d_law_roomless
  a_law_meeting : Addr
  d_law_meeting : FuncData
  h_law_meeting : Has K mg "_law_meeting" s_law_meeting ["_law_room", "_law_pages", "_law_one", "_law_other"] a_law_meeting d_law_meeting
  a_law_told : Addr
  d_law_told : FuncData
  h_law_told : Has K mg "_law_told" s_law_told ["_law_room", "_law_pages", "_law_one", "_law_other"] a_law_told d_law_told
  a_law_strange : Addr
  d_law_strange : FuncData
  h_law_strange : Has K mg "_law_strange" s_law_strange ["_law_names_here", "_law_cell"] a_law_strange d_law_strange
  a_law_deed : Addr
  d_law_deed : FuncData
  h_law_deed : Has K mg "_law_deed" s_law_deed ["_law_room", "_law_pages", "_law_names_here", "_law_cell", "_law_k"] a_law_deed d_law_deed
  a_law : Addr
  d_law : FuncData
  h_law : Has K mg "law" s_law ["_law_script"] a_law d_law
  n_ValueError : mg "ValueError" = none
  n_all : mg "all" = none
  n_bool : mg "bool" = none
  n_dict : mg "dict" = none
  n_int : mg "int" = none
  n_isinstance : mg "isinstance" = none
  n_len : mg "len" = none
  n_list : mg "list" = none
  n_max : mg "max" = none
  n_range : mg "range" = none
  n_set : mg "set" = none
  n_sorted : mg "sorted" = none
  n_str : mg "str" = none
  n_sum : mg "sum" = none
  n_tuple : mg "tuple" = none
  v_LONGEST_NAME : Value
  g_LONGEST_NAME : mg "LONGEST_NAME" = some v_LONGEST_NAME ∧ RelV (.int (8)) v_LONGEST_NAME
  v_GREATEST_AMOUNT : Value
  g_GREATEST_AMOUNT : mg "GREATEST_AMOUNT" = some v_GREATEST_AMOUNT ∧ RelV (.int (1000000000)) v_GREATEST_AMOUNT
  p_NOTHING : Addr
  g_NOTHING : mg "NOTHING" = some (.ref p_NOTHING) ∧ RelV (.ref p_NOTHING) (.ref p_NOTHING)
  t_NOTHING : ∀ H, SqT K H p_NOTHING [.int 0, .int 0]
  v_BEYOND : Value
  g_BEYOND : mg "BEYOND" = some v_BEYOND ∧ RelV (.int (10 ^ 60)) v_BEYOND
  v_MOST_NAMES : Value
  g_MOST_NAMES : mg "MOST_NAMES" = some v_MOST_NAMES ∧ RelV (.int (200)) v_MOST_NAMES
def spLaw (K : PySem.W.Frag) : Sp := fun vs H Q _ => ∃ (a : Addr) (ns : List Int), vs = [.ref a] ∧ SqL K H a (ns.map V.int) ∧ ns.length ≤ 63 ∧ ∀ H', Q (.bl true) H'
/-! ### loops over a locked dict -/
def lkD (D : Ends) (d : Addr) (od : Obj) (u : HO) : Ends := ⟨fun σ' H' => H' d = some (.frz od u) ∧ D.nx σ' (upd H' d u), fun v H' => H' d = some (.frz od u) ∧ D.rt v (upd H' d u), fun σ' H' => H' d = some (.frz od u) ∧ D.bk σ' (upd H' d u), fun σ' H' => H' d = some (.frz od u) ∧ D.ct σ' (upd H' d u)⟩
section
variable {K : PySem.W.Frag} {σ : L2.St} {H H' : Hp} {ta : TA} {td : TE} {D : Ends} {t tz tb : TS}
theorem q_lock {d : Addr} {kvs : List (Key × V)} (hd : H d = some (.dK kvs)) (h : ∀ od, t (lkD { D with nx := tz D } d od (.dK kvs)) σ (upd H d (.frz od (.dK kvs)))) : tSeq (tLock t) tz D σ H := ⟨d, .dK kvs, hd, trivial, h⟩
theorem s_lock {d : Addr} {kvs : List (Key × V)} (hd : H d = some (.dK kvs)) (h : ∀ od, t (lkD D d od (.dK kvs)) σ (upd H d (.frz od (.dK kvs)))) : tLock t D σ H := ⟨d, .dK kvs, hd, trivial, h⟩
theorem s_forEnumD {d : Addr} {od : Obj} {kvs : List (Key × V)} {i j n : Nat} (h : Ev td σ H (.ref d)) (hn : n = 2) (hd : H d = some (.frz od (.dK kvs))) (Pv : Nat → L2.St → Hp → Prop) (h0 : ∀ H1, Ex H H1 → Pv 0 σ H1) (hl : ∀ m σ' H', Pv m σ' H' → H' d = some (.frz od (.dK kvs)))
    (hs : ∀ m k u σ' H' T, kvs[m]? = some (k, u) → Pv m σ' H' → H' T = none → tb { D with nx := Pv (m + 1), ct := Pv (m + 1), bk := D.nx } ((σ'.set i (some (.int (m : Nat)))).set j (some (kV k))) (upd H' T (.tup [.int (m : Nat), kV k])))
    (he : ∀ σ' H', Pv kvs.length σ' H' → D.nx σ' H') : tFor (iEnumD (tCons td tNil)) (gTup K n (gCons (gName i) (gCons (gName j) gNil))) tb D σ H :=
  h H (Ex.refl H) _ fun H1 e1 => ⟨d, od, kvs, rfl, e1 _ _ hd, for_it (walk_enumD (d := d) (o := od) (kvs := kvs)) Pv (h0 H1 e1) (fun m σ' H' _ p => hl m σ' H' p) (fun m x σ' H' H'' _ p y => by
      obtain ⟨T, k, u, rfl, hT, rfl, hkv⟩ := y
      exact ⟨T, [.int (m : Nat), kV k], rfl, .inl (.inl upd_same), by rw [hn]; rfl, .int (m : Nat), [kV k], rfl, kV k, [], rfl, rfl, hs m k u σ' H' T hkv p hT⟩) he⟩
theorem s_forKeys {d : Addr} {od : Obj} {kvs : List (Key × V)} {i : Nat} (h : Ev td σ H (.ref d)) (hd : H d = some (.frz od (.dK kvs))) (Pv : Nat → L2.St → Hp → Prop) (h0 : ∀ H1, Ex H H1 → Pv 0 σ H1) (hl : ∀ m σ' H', Pv m σ' H' → H' d = some (.frz od (.dK kvs)))
    (hs : ∀ m k u σ' H', kvs[m]? = some (k, u) → Pv m σ' H' → tb { D with nx := Pv (m + 1), ct := Pv (m + 1), bk := D.nx } (σ'.set i (some (kV k))) H')
    (he : ∀ σ' H', Pv kvs.length σ' H' → D.nx σ' H') : tFor (iKeys td) (gName i) tb D σ H :=
  h H (Ex.refl H) _ fun H1 e1 => ⟨d, od, rfl, .inl ⟨kvs, e1 _ _ hd, for_it (walk_keys (d := d) (o := od) (kvs := kvs)) Pv (h0 H1 e1) (fun m σ' H' _ p => hl m σ' H' p) (fun m x σ' H' H'' _ p y => by
      obtain ⟨rfl, k, u, hkv, rfl⟩ := y
      exact hs m k u σ' H'' hkv p) he⟩⟩
theorem upd_tF {d q : Addr} {xs : List V} {od : Obj} {kvs : List (Key × V)} {o : HO} (hd : H d = some (.frz od (.dK kvs))) (h : SqT K H q xs) : SqT K (upd H d o) q xs := by
  rcases h with (h | ⟨o, h⟩) | h
  · exact .inl (.inl (by rw [upd_ne (ne_of h hd (by intro z; cases z))]; exact h))
  · exact .inl (.inr ⟨o, by rw [upd_ne (ne_of h hd (by intro z; cases z))]; exact h⟩)
  · exact .inr h
theorem PgAt.updF {d a : Addr} {p : Pg} {od : Obj} {kvs : List (Key × V)} {o : HO} (hd : H d = some (.frz od (.dK kvs))) (hne : a ≠ d) (h : PgAt K H a p) : PgAt K (L2.upd H d o) a p :=
  let ⟨ks, h1, h2, h3⟩ := h; ⟨ks, by rw [upd_ne hne]; exact h1, h2.to fun _ _ => upd_tF hd, h3⟩
theorem PgRd.lock {d a : Addr} {od : Obj} {kvs : List (Key × V)} {p : Pg} (hd : H d = some (.dK kvs)) (h : PgRd K H a p) : PgRd K (L2.upd H d (.frz od (.dK kvs))) a p := by
  obtain ⟨ks, h1, h2, h3⟩ := h
  refine ⟨ks, ?_, h2.to fun _ _ => upd_t hd, h3⟩
  by_cases e : a = d
  · subst e
    rcases h1 with h1 | ⟨f, h1⟩
    · obtain rfl := HO.dK.inj (Option.some.inj (hd.symm.trans h1))
      exact .inr ⟨od, upd_same⟩
    · exact absurd (hd.symm.trans h1) (by intro z; cases z)
  · rcases h1 with h1 | ⟨f, h1⟩
    · exact .inl (by rw [upd_ne e]; exact h1)
    · exact .inr ⟨f, by rw [upd_ne e]; exact h1⟩
end

/-! ### a dict comprehension over any walk -/
section
variable {J : It} {n : Nat} {G : Hp → Prop} {Y : Nat → Hp → V → Hp → Prop}
theorem dc_walk (w : Walk J n G Y) {g : TG} {tt : TT} {tk tv : TE} {vs : List Nat} {σ : L2.St} {H1 : Hp} {D : Addr} {Qd : Hp → Prop} (Pv : Nat → Hp → Prop) (h0 : Pv 0 (upd H1 D (.dK []))) (hG : ∀ i H, i ≤ n → Pv i H → G H)
    (hs : ∀ i x H H', i < n → Pv i H → Y i H x H' → g x (wipe σ vs) H' fun σ2 H2 => wipe σ2 vs = wipe σ vs ∧ tt σ2 H2 fun b H3 =>
      if b = true then tk σ2 H3 fun y H4 => tv σ2 H4 fun z H5 => ∃ kvs k, y = kV k ∧ H5 D = some (.dK kvs) ∧ kvs.length < sizeLine ∧ Pv (i + 1) (upd H5 D (.dK (putK kvs k z))) else Pv (i + 1) H3) (hd : ∀ H, Pv n H → Qd H) :
    ∃ W : Nat → Nat → Hp → Prop, (∃ m, W 0 m (upd H1 D (.dK []))) ∧ ∀ i m H, W i m H →
      (J.stop i H ∧ Qd H) ∨ (J.go i H ∧ ∃ Nx : Hp → Prop, (∀ H', Nx H' → ∃ m', m' < m ∧ W (i + 1) m' H') ∧ ∀ x H', J.yld i H x H' → g x (wipe σ vs) H' fun σ2 H2 => wipe σ2 vs = wipe σ vs ∧ tt σ2 H2 fun b H3 =>
        if b = true then tk σ2 H3 fun y H4 => tv σ2 H4 fun z H5 => ∃ kvs k, y = kV k ∧ H5 D = some (.dK kvs) ∧ kvs.length < sizeLine ∧ Nx (upd H5 D (.dK (putK kvs k z))) else Nx H3) := by
  refine ⟨fun i m H => m = n - i ∧ i ≤ n ∧ Pv i H, ⟨n, by simp, Nat.zero_le _, h0⟩, ?_⟩
  rintro i m H ⟨rfl, hi, pv⟩
  have gg := hG i H hi pv
  rcases Nat.lt_or_ge i n with lt | ge
  · exact .inr ⟨w.goes i H lt gg, Pv (i + 1), fun H' p' => ⟨n - (i + 1), by omega, rfl, lt, p'⟩, fun x H' y => hs i x H H' lt pv (w.yields i H x H' lt gg y)⟩
  · obtain rfl : i = n := by omega
    exact .inl ⟨w.stops H gg, hd H pv⟩
end
def reachB (a b : Int × Int) : Bool := decide (b.1 ≤ a.1) && decide (b.2 ≤ a.2)
section
variable {K : PySem.W.Frag} {σ : L2.St} {H H' : Hp} {td tk tx te : TE} {x y v : V}
theorem dget_rd {d : Addr} {p : Pg} {n : Nm} (h : PgRd K H d p) : (∃ q s, DGet H d (.str (ofL n)) (some (.ref q)) ∧ getP p n = some s ∧ SqT K H q [.int s.1, .int s.2]) ∨ (DGet H d (.str (ofL n)) none ∧ getP p n = none) := by
  obtain ⟨kvs, hd, hp, _⟩ := h
  rcases hp.get n with ⟨q, s, h1, h2, h3⟩ | ⟨h1, h2⟩
  · exact .inl ⟨q, s, .inl ⟨kvs, .inr (ofL n), hd, rfl, h1.symm⟩, h2, h3⟩
  · exact .inr ⟨.inl ⟨kvs, .inr (ofL n), hd, rfl, h1.symm⟩, h2⟩
/-- d[n], n in the page -/
theorem x_dget {d : Addr} {p : Pg} {n : Nm} {s : Int × Int} (h1 : Ev td σ H (.ref d)) (h2 : Ev tk σ H (.str (ofL n))) (hp : PgRd K H d p) (hs : getP p n = some s) : EvX (tDGet td tk) σ H (Tp K [.int s.1, .int s.2]) := fun H1 e Q q =>
  h1 H1 e _ fun H2 e2 => h2 H2 (e.trans e2) _ fun H3 e3 => by
    rcases dget_rd (n := n) (hp.mono ((e.trans e2).trans e3)) with ⟨r, s', g1, g2, g3⟩ | ⟨_, g2⟩
    · rw [hs] at g2
      obtain rfl := Option.some.inj g2
      exact ⟨d, _, rfl, g1, q _ H3 (e2.trans e3) ⟨r, rfl, g3⟩⟩
    · rw [hs] at g2
      cases g2
/-- d.get(n, x) -/
theorem x_dget2 {d : Addr} {p : Pg} {n : Nm} {s0 : Int × Int} (h1 : Ev td σ H (.ref d)) (h2 : Ev tk σ H (.str (ofL n))) (h3 : EvX tx σ H (Tp K [.int s0.1, .int s0.2])) (hp : PgRd K H d p) :
    EvX (tDGet2 td tk tx) σ H (Tp K [.int ((getP p n).getD s0).1, .int ((getP p n).getD s0).2]) := fun H1 e Q q =>
  h1 H1 e _ fun H2 e2 => ⟨d, rfl, let ⟨kvs, a, _⟩ := hp.mono (e.trans e2); .inl ⟨kvs, a⟩, h2 H2 (e.trans e2) _ fun H3 e3 => h3 H3 ((e.trans e2).trans e3) _ fun z H4 e4 hz => by
    have e24 : Ex H2 H4 := e3.trans e4
    rcases dget_rd (n := n) (hp.mono ((e.trans e2).trans e24)) with ⟨r, s', g1, g2, g3⟩ | ⟨g1, g2⟩
    · refine ⟨_, g1, q _ H4 (e2.trans e24) ⟨r, rfl, ?_⟩⟩
      rw [g2]
      exact g3
    · refine ⟨_, g1, q _ H4 (e2.trans e24) ?_⟩
      rw [g2]
      exact hz⟩
end
section
variable {P : Program} {w : World} {K : PySem.W.Frag} {mg : Str → Option Value} {base : Heap}
abbrev spShareOf (K : PySem.W.Frag) : Sp := SpF (fun x : Addr × Nm × Pg => [.ref x.1, .str (ofL x.2.1)]) (fun x H => PgRd K H x.1 x.2.2) (fun x _ => Tp K [.int ((getP x.2.2 x.2.1).getD (0, 0)).1, .int ((getP x.2.2 x.2.1).getD (0, 0)).2])
theorem x_shareOf {σ : L2.St} {H : Hp} {ta tb : TE} {E : XK} {d : Addr} {p : Pg} {n : Nm} (h1 : Ev ta σ H (.ref d)) (h2 : Ev tb σ H (.str (ofL n))) (hp : PgRd K H d p) :
    EvX (tCall (spShareOf K) [] E (tCons ta (tCons tb tNil))) σ H (Tp K [.int ((getP p n).getD (0, 0)).1, .int ((getP p n).getD (0, 0)).2]) := x_call2 (x_ev h1) (x_ev h2) (by
  rintro _ _ H1 e rfl rfl
  exact sx_of (d, n, p) (fun H2 e2 => hp.mono (e.trans e2)) fun _ _ _ _ _ h => h)
theorem ok_share_of (T : Txt K mg) : FnOk P w K mg base CX0 1 T.a_share_of T.d_share_of ["page", "name"] (spShareOf K) := by
  refine T.h_share_of.F.ok sc_share_of (fun vs H Q E h => ?_) (fun cdv A outer s H vs Q E hr h => ?_)
  · obtain ⟨c, rfl, _⟩ := h
    rfl
  · obtain ⟨⟨d, n, p⟩, rfl, hp, k⟩ := h
    simp only at hp k
    refine ⟨_, (pss_one (ps_ret (pe_dget2 (hu_of hr) (pv 0) (pv 1) (pe_glob rfl T.g_NOTHING.1 T.g_NOTHING.2) (by refine ⟨?_, ?_, ?_, ?_⟩ <;> rfl)))), ?_⟩
    exact sx_ret (x_dget2 (K := K) (s0 := (0, 0)) (ev_var rfl) (ev_var rfl) (x_is ev_c fun H1 _ => ⟨_, rfl, T.t_NOTHING H1⟩) hp) fun v H1 e1 h1 => k _ _ e1 h1
/-- what a page lacks: the names in this order -/
def lackP (p q : Pg) (ns : List Nm) : Pg := ns.filterMap fun n => (getP q n).bind fun s => if reachB ((getP p n).getD (0, 0)) s = true then none else some (n, s)
def RisingN (ns : List Nm) : Prop := ns.Pairwise fun a b => ¬ b < a
end

/-! ### a page that is walked by its names -/
section
variable {K : PySem.W.Frag} {σ : L2.St} {H H' : Hp} {te td : TE}
/-- [e for k in d] -/
theorem el_lockKeys {d : Addr} {kvs : List (Key × V)} {i : Nat} {vs : List Nat} (vals : List V) (hv : vals.length = kvs.length) (hd : H d = some (.dK kvs)) (h : ∀ H', Ev td σ H' (.ref d)) (hz : kvs.length ≤ 30000)
    (hw : ∀ x, wipe ((wipe σ vs).set i (some x)) vs = wipe σ vs) (he : ∀ (m : Nat) (kv : Key × V) (u : V), kvs[m]? = some kv → vals[m]? = some u → ∀ od H1, Ex (upd H d (.frz od (.dK kvs))) H1 → Ev te ((wipe σ vs).set i (some (kV kv.1))) H1 u) :
    EvL (tLockE (tLc (iKeys td) (gName i) tYes te vs)) σ H vals := fun H0 e Q q => by
  refine ⟨d, .dK kvs, e _ _ hd, trivial, fun od => ?_⟩
  refine h _ _ (Ex.refl _) _ fun H2 e2 => ?_
  have hd2 : H2 d = some (.frz od (.dK kvs)) := e2 d _ upd_same
  have e02 : Ex (upd H d (.frz od (.dK kvs))) H2 := (ex_upd2 e).trans e2
  refine ⟨d, od, rfl, .inl ⟨kvs, hd2, fun Dl hD => ?_⟩⟩
  refine lc_it (walk_keys (d := d) (o := od) (kvs := kvs)) (Cw H2 (fun _ => true) (fun i => vals[i]?.getD .non) Dl) ⟨hD, Ex.new hD, upd_same⟩ (fun _ H' _ p => p.2.1 d _ hd2) (fun m x H' H'' hi p y => ?_) (fun H' p => ?_)
  · obtain ⟨rfl, k, v, hkv, rfl⟩ := y
    have hi' : m < vals.length := by omega
    have hu : vals[m]? = some vals[m] := List.getElem?_eq_getElem hi'
    refine ⟨hw _, ?_⟩
    refine cw_turn p (by omega) et_yes (fun _ => ?_)
    rw [hu]
    exact he m (k, v) vals[m] hkv hu od H2 e02
  · have hne : Dl ≠ d := fun z => by
      rw [z, hd2] at hD
      cases hD
    refine ⟨p.2.1 d _ hd2, q Dl _ (lock_free (e _ _ hd) e2 hD) (unlock (e _ _ hd) (e2.trans p.2.1)) ?_⟩
    rw [upd_ne hne, p.2.2, given_all, ← hv, map_range_get vals .non (fun x => x), List.map_id']
end

section
variable {K : PySem.W.Frag} {σ : L2.St} {H H' : Hp} {ta tb te td tk tv : TE} {v : V} {P : VP}
theorem ev_ixTp {xs : List V} {i : Int} (h : EvX te σ H (Tp K xs)) (ha : atI xs i = some v) : Ev (tOp (rIxT K) te (tC (.int i))) σ H v := fun H1 e Q q =>
  h H1 e _ fun u H2 e2 hu => by
    obtain ⟨p, rfl, hp⟩ := hu
    exact rv_ixT hp ha H2 (Ex.refl _) Q fun H3 e3 => q H3 (e2.trans e3)
end

section
variable {P : Program} {w : World} {K : PySem.W.Frag} {mg : Str → Option Value} {base : Heap}
abbrev spNet (K : PySem.W.Frag) : Sp := SpF (fun x : Addr × Int × Int => [.ref x.1]) (fun x H => SqT K H x.1 [.int x.2.1, .int x.2.2]) (fun x H => Is (.int (x.2.1 - x.2.2)))
theorem ok_net (T : Txt K mg) : FnOk P w K mg base CX0 1 T.a_net T.d_net ["share"] (spNet K) := by
  refine T.h_net.F.ok sc_net (fun vs H Q E h => ?_) (fun cdv A outer s H vs Q E hr h => ?_)
  · obtain ⟨c, rfl, _⟩ := h
    rfl
  · obtain ⟨⟨p, a, b⟩, rfl, hp, k⟩ := h
    simp only at hp k
    refine ⟨_, (pss_one (ps_ret (pe_op op_sub (pe_ix ix_tup (pv 0) pe_int (fun _ _ => rfl)) (pe_ix ix_tup (pv 0) pe_int (fun _ _ => rfl))))), ?_⟩
    refine s_ret (by walk_at "ev") fun H1 e1 => ?_
    exact k _ _ e1 rfl
theorem x_net {σ : L2.St} {H : Hp} {ta : TE} {E : XK} {a b : Int} (h1 : EvX ta σ H (Tp K [.int a, .int b])) : Ev (tCall (spNet K) [] E (tCons ta tNil)) σ H (.int (a - b)) := ev_x (x_call1 h1 (by
  rintro _ H1 e ⟨p, rfl, hp⟩
  exact sx_of (p, a, b) (fun H2 e2 => ex_t e2 hp) fun _ _ _ _ _ h => h))
end
local macro_rules | `(tactic| walk_at "xc") => `(tactic| ((with_reducible apply x_net); (focus (walk_at "xv"))))

/-! ### the total of a page -/
def totP (p : Pg) : Int := (p.map fun e : Nm × Int × Int => e.2.1 - e.2.2).sum
section
variable {K : PySem.W.Frag} {σ : L2.St} {H : Hp} {te : TE}
theorem x_sumL {ns : List Int} (h : EvL te σ H (ns.map V.int)) : Ev (tCB (rSum K) (tCons te tNil)) σ H (.int ns.sum) := fun H1 e Q q =>
  h H1 e _ fun p H2 hp e2 h2 => ⟨p, ns, rfl, sq_of h2, q H2 e2⟩
end
section
variable {P : Program} {w : World} {K : PySem.W.Frag} {mg : Str → Option Value} {base : Heap}
abbrev spTotal (K : PySem.W.Frag) : Sp := SpF (fun x : Addr × Pg => [.ref x.1]) (fun x H => PgAt K H x.1 x.2) (fun x _ => Is (.int (totP x.2)))
theorem x_total {σ : L2.St} {H : Hp} {ta : TE} {E : XK} {P1 : VP} {p : Pg} (h1 : EvX ta σ H P1) (g1 : ∀ v H1, Ex H H1 → P1 v H1 → ∃ a, v = .ref a ∧ PgAt K H1 a p) :
    Ev (tCall (spTotal K) [] E (tCons ta tNil)) σ H (.int (totP p)) := ev_x (x_call1 h1 (by
  intro v H1 e p1
  obtain ⟨a, rfl, ha⟩ := g1 _ _ e p1
  exact sx_of (a, p) (fun H2 e2 => ha.mono e2) fun _ _ _ e2 _ h => h))
theorem ok_total (T : Txt K mg) : FnOk P w K mg base CX0 2 T.a_total T.d_total ["page"] (spTotal K) := by
  refine T.h_total.F.ok sc_total (fun vs H Q E h => ?_) (fun cdv A outer s H vs Q E hr h => ?_)
  · obtain ⟨c, rfl, _⟩ := h
    rfl
  · obtain ⟨⟨b, q⟩, rfl, hq, k⟩ := h
    simp only at hq k
    refine ⟨_, (pss_one (ps_ret (pe_callB (cr_sum rfl) (by rfl) T.n_sum (by decide +kernel) (pa_cons (pe_lock (pe_lc (own := [("name", 1)]) (by rfl) sc_total.nd (pi_keys (pv 0)) (blkOk_by (own := [("name", 1)]) (N := ["page", "name"]) (sc := defScope s_total) (by decide +kernel)) (fun _ _ _ _ _ => (pg_name (i := 1) sc_total.nd rfl (by first | exact Or.inl rfl | exact Or.inr rfl))) (fun _ _ _ _ _ => pts_nil) (fun _ _ _ _ _ => (pe_call (ok_net T) (hr.mono (by decide)) rfl T.h_net.m T.h_net.F.kp T.h_net.b .nil pass0 (pa_cons (pe_dget (hu_of hr) (pv 0) (pv 1) (fun _ _ => rfl)) pa_nil))))) pa_nil)))), ?_⟩
    obtain ⟨kb, hb1, hb2, hb3, hb4, hb5⟩ := id hq
    refine s_ret (x_sumL (ns := q.map fun e : Nm × Int × Int => e.2.1 - e.2.2) ?_) fun H1 e1 => k _ _ e1 rfl
    have hlk : ∀ od, PgRd K (upd H b (.frz od (.dK kb))) b q := fun od => hq.rd.lock hb1
    refine el_lockKeys ((q.map fun e : Nm × Int × Int => e.2.1 - e.2.2).map V.int) ?hv hb1 ?h ?hz ?hw ?_
    case hv => rw [List.length_map, List.length_map, hb2.len]
    case h => intro H'; exact ev_var rfl
    case hz => rw [hb2.len]; omega
    case hw => intro _; rfl
    intro m kv u hkv hu od H3 e3
    obtain ⟨e, hem, hk, _⟩ := hb2.at hkv
    rw [List.getElem?_map, List.getElem?_map, hem] at hu
    obtain rfl := Option.some.inj hu
    rw [hk]
    exact x_net (x_dget (K := K) (ev_var rfl) (ev_var rfl) ((hlk od).mono e3) (getP_mem hb3 e (List.mem_of_getElem? hem)))
end

section
variable {P : Program} {w : World} {K : PySem.W.Frag} {mg : Str → Option Value} {base : Heap}
def mx (i j : Int) : Int := if j > i then j else i
theorem mx_if (a c : Int) : (if decide (c < a) = true then a else c) = mx a c := by
  unfold mx
  by_cases h : c < a
  · rw [if_pos (decide_eq_true h), if_neg (by omega)]
  · rw [if_neg (by simpa using h)]
    split <;> omega
theorem mx_comm (a c : Int) : mx c a = mx a c := by unfold mx; split <;> split <;> omega
theorem mx_l (a c : Int) : mx (mx a c) a = mx a c := by unfold mx; split <;> split <;> omega
theorem mx_r (a c : Int) : mx c (mx a c) = mx a c := by unfold mx; split <;> split <;> omega
abbrev spGreater (K : PySem.W.Frag) : Sp := SpF (fun x : (Addr × Addr) × (Int × Int) × Int × Int => [.ref x.1.1, .ref x.1.2]) (fun x H => SqT K H x.1.1 [.int x.2.1.1, .int x.2.1.2] ∧ SqT K H x.1.2 [.int x.2.2.1, .int x.2.2.2]) (fun x H => Nw H (.tup [.int (mx x.2.1.1 x.2.2.1), .int (mx x.2.1.2 x.2.2.2)]))
theorem ok_greater (T : Txt K mg) : FnOk P w K mg base CX0 1 T.a_greater T.d_greater ["one", "other"] (spGreater K) := by
  refine T.h_greater.F.ok sc_greater (fun vs H Q E h => ?_) (fun cdv A outer s H vs Q E hr h => ?_)
  · obtain ⟨c, rfl, _⟩ := h
    rfl
  · obtain ⟨⟨⟨p, q⟩, ⟨a, b⟩, c, d⟩, rfl, ⟨hp, hq⟩, k⟩ := h
    simp only at hp hq k
    refine ⟨_, (pss_one (ps_ret (pe_tup (pa_cons (pe_callB (call_max2 rfl) (by rfl) T.n_max (by decide +kernel) (pa_cons (pe_ix ix_tup (pv 0) pe_int (fun _ _ => rfl)) (pa_cons (pe_ix ix_tup (pv 1) pe_int (fun _ _ => rfl)) pa_nil))) (pa_cons (pe_callB (call_max2 rfl) (by rfl) T.n_max (by decide +kernel) (pa_cons (pe_ix ix_tup (pv 0) pe_int (fun _ _ => rfl)) (pa_cons (pe_ix ix_tup (pv 1) pe_int (fun _ _ => rfl)) pa_nil))) pa_nil))))), ?_⟩
    exact sx_ret (x_tup (by walk_at "ev")) fun v H1 e1 h1 => k _ _ e1 h1
theorem x_greater {σ : L2.St} {H : Hp} {ta tb : TE} {E : XK} {a b c d : Int} (h1 : EvX ta σ H (Tp K [.int a, .int b])) (h2 : EvX tb σ H (Tp K [.int c, .int d])) :
    EvX (tCall (spGreater K) [] E (tCons ta (tCons tb tNil))) σ H (Tp K [.int (mx a c), .int (mx b d)]) := x_call2 h1 h2 (by
  rintro _ _ H1 e ⟨p, rfl, hp⟩ ⟨q, rfl, hq⟩
  exact sx_of ((p, q), (a, b), c, d) (fun H2 e2 => ⟨ex_t e2 hp, ex_t e2 hq⟩) fun _ _ _ _ _ h => nw_t h)
end
local macro_rules | `(tactic| walk_at "xv") => `(tactic| ((with_reducible apply x_greater); (focus (walk_at "xv")); (focus (walk_at "xv"))))

section
variable {P : Program} {w : World} {K : PySem.W.Frag} {mg : Str → Option Value} {base : Heap}
abbrev spReaches (K : PySem.W.Frag) : Sp := SpF (fun x : (Addr × Addr) × (Int × Int) × Int × Int => [.ref x.1.1, .ref x.1.2]) (fun x H => SqT K H x.1.1 [.int x.2.1.1, .int x.2.1.2] ∧ SqT K H x.1.2 [.int x.2.2.1, .int x.2.2.2]) (fun x H => Is (.bl (decide (x.2.2.1 ≤ x.2.1.1) && decide (x.2.2.2 ≤ x.2.1.2))))
theorem ok_reaches (T : Txt K mg) : FnOk P w K mg base CX0 1 T.a_reaches T.d_reaches ["one", "other"] (spReaches K) := by
  refine T.h_reaches.F.ok sc_reaches (fun vs H Q E h => ?_) (fun cdv A outer s H vs Q E hr h => ?_)
  · obtain ⟨c, rfl, _⟩ := h
    rfl
  · obtain ⟨⟨⟨p, q⟩, ⟨a, b⟩, c, d⟩, rfl, ⟨hp, hq⟩, k⟩ := h
    simp only at hp hq k
    refine ⟨_, (pss_one (ps_ret (pe_and (pe_cmpR op_ge (pe_ix ix_tup (pv 0) pe_int (fun _ _ => rfl)) (pe_ix ix_tup (pv 1) pe_int (fun _ _ => rfl)) (nomark _)) (pe_one (pe_cmpR op_ge (pe_ix ix_tup (pv 0) pe_int (fun _ _ => rfl)) (pe_ix ix_tup (pv 1) pe_int (fun _ _ => rfl)) (nomark _)))))), ?_⟩
    refine s_ret (by walk_at "ev") fun H1 e1 => ?_
    exact k _ _ e1 rfl
theorem x_reaches {σ : L2.St} {H : Hp} {ta tb : TE} {E : XK} {a b c d : Int} (h1 : EvX ta σ H (Tp K [.int a, .int b])) (h2 : EvX tb σ H (Tp K [.int c, .int d])) :
    Ev (tCall (spReaches K) [] E (tCons ta (tCons tb tNil))) σ H (.bl (decide (c ≤ a) && decide (d ≤ b))) := ev_x (x_call2 h1 h2 (by
  rintro _ _ H1 e ⟨p, rfl, hp⟩ ⟨q, rfl, hq⟩
  exact sx_of ((p, q), (a, b), c, d) (fun H2 e2 => ⟨ex_t e2 hp, ex_t e2 hq⟩) fun _ _ _ _ _ h => h))
end
local macro_rules | `(tactic| walk_at "xc") => `(tactic| ((with_reducible apply x_reaches); (focus (walk_at "xv")); (focus (walk_at "xv"))))

theorem getP_some {p : Pg} {n : Nm} (h : n ∈ p.map (·.1)) : ∃ s, getP p n = some s := by
  unfold getP
  cases c : p.find? fun e => decide (e.1 = n) with
  | some e => exact ⟨e.2, rfl⟩
  | none =>
    obtain ⟨e, he, h2⟩ := List.mem_map.mp h
    have := List.find?_eq_none.mp c e he
    simp [h2] at this
theorem putP_new {p : Pg} {n : Nm} {s : Int × Int} (h : n ∉ p.map (·.1)) : putP p n s = p ++ [(n, s)] := by
  unfold putP
  rw [if_neg]
  intro c
  obtain ⟨e, he, h2⟩ := List.any_eq_true.mp c
  exact h (List.mem_map.mpr ⟨e, he, of_decide_eq_true h2⟩)

/-! ### lacking, knows -/
theorem lackP_sub (p q : Pg) : ∀ ns : List Nm, List.Sublist ((lackP p q ns).map (·.1)) ns
  | [] => List.Sublist.slnil
  | n :: ns => by
    have ih := lackP_sub p q ns
    unfold lackP at ih ⊢
    rw [List.filterMap_cons]
    cases getP q n with
    | none => exact ih.cons _
    | some s =>
      rw [Option.bind_some]
      by_cases c : reachB ((getP p n).getD (0, 0)) s = true
      · rw [if_pos c]
        exact ih.cons _
      · rw [if_neg c]
        exact ih.cons₂ _
theorem lackP_mem {p q : Pg} {ns : List Nm} {e : Nm × Int × Int} (h : e ∈ lackP p q ns) : getP q e.1 = some e.2 := by
  unfold lackP at h
  obtain ⟨n, hn, h⟩ := List.mem_filterMap.mp h
  cases c : getP q n with
  | none => rw [c] at h; cases h
  | some s =>
    rw [c] at h
    replace h : (if reachB ((getP p n).getD (0, 0)) s = true then none else some (n, s)) = some e := h
    split at h
    · cases h
    · obtain rfl := Option.some.inj h
      exact c
theorem lackP_succ {p q : Pg} {ns : List Nm} {i : Nat} {n : Nm} {s : Int × Int} (hi : ns[i]? = some n) (hs : getP q n = some s) :
    lackP p q (ns.take (i + 1)) = if reachB ((getP p n).getD (0, 0)) s = true then lackP p q (ns.take i) else lackP p q (ns.take i) ++ [(n, s)] := by
  unfold lackP
  rw [List.take_succ, hi, List.filterMap_append]
  show _ ++ List.filterMap _ [n] = _
  rw [List.filterMap_cons, List.filterMap_nil, hs]
  rw [Option.bind_some]
  by_cases c : reachB ((getP p n).getD (0, 0)) s = true
  · rw [if_pos c, if_pos c, List.append_nil]
  · rw [if_neg c, if_neg c]
theorem perm_names {q : Pg} {ys : List Str} (h : ys.Perm (q.map fun e => ofL e.1)) : (ys.map fun y => y.cps.toList).Perm (q.map (·.1)) ∧ ys = (ys.map fun y => y.cps.toList).map ofL := by
  constructor
  · have := h.map fun y : Str => y.cps.toList
    rw [List.map_map] at this
    exact this
  · rw [List.map_map]
    exact (List.map_id'' (fun y => ofL_eta y) ys).symm
def LackV (K : PySem.W.Frag) (H : Hp) (p q : Pg) : VP := fun v H2 => ∃ d ns, v = .ref d ∧ H d = none ∧ PgAt K H2 d (lackP p q ns) ∧ ns.Perm (q.map (·.1)) ∧ RisingN ns
instance {K : PySem.W.Frag} {H : Hp} {p q : Pg} : Mono (LackV K H p q) := ⟨fun e ⟨d, ns, a, b, c, f⟩ => ⟨d, ns, a, b, c.mono e, f⟩⟩
section
variable {P : Program} {w : World} {K : PySem.W.Frag} {mg : Str → Option Value} {base : Heap}
abbrev spLacking (K : PySem.W.Frag) : Sp := SpF (fun x : (Addr × Addr) × Pg × Pg => [.ref x.1.1, .ref x.1.2]) (fun x H => PgRd K H x.1.1 x.2.1 ∧ PgRd K H x.1.2 x.2.2) (fun x H => LackV K H x.2.1 x.2.2)
theorem x_lacking {σ : L2.St} {H : Hp} {ta tb : TE} {E : XK} {a b : Addr} {p q : Pg} (h1 : Ev ta σ H (.ref a)) (h2 : Ev tb σ H (.ref b)) (hp : PgRd K H a p) (hq : PgRd K H b q) :
    EvX (tCall (spLacking K) [] E (tCons ta (tCons tb tNil))) σ H (LackV K H p q) := x_call2 (x_ev h1) (x_ev h2) (by
  rintro _ _ H1 e rfl rfl
  exact sx_of ((a, b), p, q) (fun H2 e2 => ⟨hp.mono (e.trans e2), hq.mono (e.trans e2)⟩) fun _ _ _ e2 _ ⟨d, ns, h1, h2, h3⟩ => ⟨d, ns, h1, fresh_back (e.trans e2) h2, h3⟩)
theorem ok_lacking (T : Txt K mg) : FnOk P w K mg base CX0 2 T.a_lacking T.d_lacking ["one", "other"] (spLacking K) := by
  refine T.h_lacking.F.ok sc_lacking (fun vs H Q E h => ?_) (fun cdv A outer s H vs Q E hr h => ?_)
  · obtain ⟨c, rfl, _⟩ := h
    rfl
  · obtain ⟨⟨⟨a, b⟩, p, q⟩, rfl, ⟨hp, hq⟩, k⟩ := h
    simp only at hp hq k
    refine ⟨_, (pss_one (ps_ret (pe_dc (own := [("name", 2)]) (by rfl) sc_lacking.nd (pi_list (pe_callB (gc_sortedD rfl) (by rfl) T.n_sorted (by decide +kernel) (pa_cons (pv 1) pa_nil))) (blkOk_by (own := [("name", 2)]) (N := ["one", "other", "name"]) (sc := defScope s_lacking) (by decide +kernel)) (fun _ _ _ _ _ => (pg_name (i := 2) sc_lacking.nd rfl (by first | exact Or.inl rfl | exact Or.inr rfl))) (fun _ _ _ _ _ => (pts_one (pt_not (pt_val (pe_call (ok_reaches T) (hr.mono (by decide)) rfl T.h_reaches.m T.h_reaches.F.kp T.h_reaches.b .nil pass0 (pa_cons (pe_call (ok_share_of T) (hr.mono (by decide)) rfl T.h_share_of.m T.h_share_of.F.kp T.h_share_of.b .nil pass0 (pa_cons (pv 0) (pa_cons (pv 2) pa_nil))) (pa_cons (pe_dget (hu_of hr) (pv 1) (pv 2) (fun _ _ => rfl)) pa_nil))))))) (fun _ _ _ _ _ => (pv 2)) (fun _ _ _ _ _ => (pe_dget (hu_of hr) (pv 1) (pv 2) (fun _ _ => rfl)))))), ?_⟩
    obtain ⟨kb, hb1, hb2, hb3, hb4, hb5⟩ := id hq
    refine ⟨.ref b, rfl, b, kb, q.map fun e => ofL e.1, rfl, hb1, hb2.keys, by rw [List.length_map]; omega, fun ys L hperm hys hL => ?_⟩
    obtain ⟨hns, eys⟩ := perm_names hperm
    have hris : RisingN (ys.map fun y => y.cps.toList) := List.pairwise_map.mpr hys
    generalize (ys.map fun y => y.cps.toList) = ns at hns eys hris
    subst eys
    have hnd : ns.Nodup := hns.symm.nodup hb3
    have e1 : Ex H (upd H L (.lst ((ns.map ofL).map V.str))) := Ex.new hL
    have hL1 : SqL K (upd H L (.lst ((ns.map ofL).map V.str))) L ((ns.map ofL).map V.str) := sq_of upd_same
    generalize upd H L (.lst ((ns.map ofL).map V.str)) = H1 at e1 hL1
    refine ⟨L, rfl, ⟨_, hL1⟩, fun D hD => ?_⟩
    refine dc_walk (walk_list (K := K) (a := L) (xs := (ns.map ofL).map V.str)) (fun i H' => Ex H1 H' ∧ ∃ kvs, H' D = some (.dK kvs) ∧ PgV K H' kvs (lackP p q (ns.take i))) ⟨Ex.new hD, [], upd_same, by
      rw [List.take_zero]
      exact .nil⟩ (fun i H' hi p => ex_l p.1 hL1) ?_ ?_
    · rintro i x H' H'' hi ⟨e2, kvs, hkD, hkv⟩ ⟨rfl, hx⟩
      have hi' : i < ns.length := by simpa using hi
      have hn : ns[i]? = some ns[i] := List.getElem?_eq_getElem hi'
      have hx' : x = .str (ofL ns[i]) := by
        rw [List.getElem?_map, List.getElem?_map, hn] at hx
        exact (Option.some.inj hx).symm
      have hmem : ns[i] ∈ q.map (·.1) := hns.mem_iff.mp (List.getElem_mem hi')
      obtain ⟨s, hs⟩ := getP_some hmem
      have hno : ns[i] ∉ (lackP p q (ns.take i)).map (·.1) := fun z => by
        have := (lackP_sub p q (ns.take i)).subset z
        have hsp : ns = ns.take i ++ ns.drop i := (List.take_append_drop i ns).symm
        rw [hsp, List.nodup_append] at hnd
        refine hnd.2.2 _ this ns[i] ?_ rfl
        rw [List.drop_eq_getElem_cons hi']
        exact List.mem_cons_self
      have hsucc := lackP_succ (p := p) hn hs
      generalize ns[i] = n at hx' hs hno hsucc
      subst hx'
      have eH : Ex H H'' := e1.trans e2
      have hp2 := hp.mono eH
      have hq2 := hq.mono eH
      refine ⟨rfl, ?_⟩
      have hT : EvT (tNot (tB (tCall (spReaches K) [] E (tCons (tCall (spShareOf K) [] E (tCons (tVar 0) (tCons (tVar 2) tNil))) (tCons (tDGet (tVar 1) (tVar 2)) tNil))))) [some (.ref a), some (.ref b), some (.str (ofL n))] H'' (!reachB ((getP p n).getD (0, 0)) s) := by
        refine et_not (et_B ?_)
        exact x_reaches (x_shareOf (ev_var rfl) (ev_var rfl) hp2) (x_dget (ev_var rfl) (ev_var rfl) hq2 hs)
      refine hT H'' (Ex.refl _) _ fun H3 e3 => ?_
      by_cases c : reachB ((getP p n).getD (0, 0)) s = true
      · rw [c, if_neg (by simp)]
        rw [if_pos c] at hsucc
        exact ⟨e2.trans e3, kvs, e3 _ _ hkD, by rw [hsucc]; exact hkv.mono e3⟩
      · rw [Bool.not_eq_true] at c
        rw [c, if_pos (by rfl)]
        rw [c, if_neg (by simp)] at hsucc
        refine ⟨.str (ofL n), rfl, ?_⟩
        refine x_dget (K := K) (ev_var rfl) (ev_var rfl) hq2 hs H3 e3 _ fun v H4 e4 hv => ?_
        obtain ⟨r, rfl, hr4⟩ := hv
        have hkv4 := (hkv.mono e3).mono e4
        have hD4 := e4 _ _ (e3 _ _ hkD)
        have hlen := hkv.len
        have hle := (lackP_sub p q (ns.take i)).length_le
        rw [List.length_map, List.length_take] at hle
        refine ⟨kvs, .inr (ofL n), rfl, hD4, sz_lt (by rw [hlen]; have := hns.length_eq; rw [List.length_map] at this; omega), Ex.mut (e2.trans (e3.trans e4)) hD, _, upd_same, ?_⟩
        rw [hsucc, ← putP_new hno]
        exact (hkv4.put hr4).to fun _ _ h => upd_t hD4 h
    · rintro H' ⟨e2, kvs, hkD, hkv⟩
      have hlen : ((ns.map ofL).map V.str).length = ns.length := by simp
      rw [hlen, List.take_length] at hkv
      have hsub := lackP_sub p q ns
      refine k _ _ (e1.trans e2) ⟨D, ns, rfl, fresh_back e1 hD, ⟨kvs, hkD, hkv, hsub.nodup hnd, fun e he => ?_, ?_⟩, hns, hris⟩
      · have : e.1 ∈ q.map (·.1) := hns.mem_iff.mp (hsub.subset (List.mem_map.mpr ⟨e, he, rfl⟩))
        obtain ⟨e', h1, h2⟩ := List.mem_map.mp this
        rw [← h2]
        exact hb4 e' h1
      · have h1 := hsub.length_le
        have h2 := hns.length_eq
        rw [List.length_map] at h1 h2
        omega
end

--CUT join
/-! ### pages that are made -/
def ShPos (s : Int × Int) : Prop := 0 ≤ s.1 ∧ 0 ≤ s.2 ∧ ¬(s.1 = 0 ∧ s.2 = 0)
def PgPos (p : Pg) : Prop := ∀ e ∈ p, ShPos e.2
theorem putP_pos {p : Pg} {n : Nm} {s : Int × Int} (h : PgPos p) (hs : ShPos s) : PgPos (putP p n s) := by
  intro e he
  unfold putP at he
  split at he
  · obtain ⟨x, hx, rfl⟩ := List.mem_map.mp he
    by_cases c : x.1 = n
    · rw [if_pos c]; exact hs
    · rw [if_neg c]; exact h x hx
  · rcases List.mem_append.mp he with he | he
    · exact h e he
    · rw [List.mem_singleton.mp he]; exact hs
section
variable {K : PySem.W.Frag} {σ : L2.St} {H H' : Hp} {ta tb te td tk tv : TE} {x y z v : V} {D : Ends} {tz : TS} {P P1 P2 : VP}
theorem ev_op2X {r : R2} [Mono P1] (h1 : EvX ta σ H P1) (h2 : EvX tb σ H P2) (hr : ∀ a b H1, Ex H H1 → P1 a H1 → P2 b H1 → RV r a b H1 z) : Ev (tOp r ta tb) σ H z := fun H1 e Q q =>
  h1 H1 e _ fun a H2 e2 ha => h2 H2 (e.trans e2) _ fun b H3 e3 hb => hr a b H3 ((e.trans e2).trans e3) (Mono.mono e3 ha) hb H3 (Ex.refl H3) Q fun H4 e4 => q H4 ((e2.trans e3).trans e4)
theorem ev_eqT {a b c d : Int} (h1 : EvX ta σ H (Tp K [.int a, .int b])) (h2 : EvX tb σ H (Tp K [.int c, .int d])) : Ev (tOp (rEqD K) ta tb) σ H (.bl (decide (a = c) && decide (b = d))) := ev_op2X h1 h2 (by
  rintro _ _ H1 e ⟨p, rfl, hp⟩ ⟨q, rfl, hq⟩
  rw [← eqv_two]
  exact rv_eqD (fun H2 e2 => dp_two (ex_t e2 hp)) (fun H2 e2 => dp_two (ex_t e2 hq)) (shaped_two _ _) (shaped_two _ _))
theorem ev_neT {a b c d : Int} (h1 : EvX ta σ H (Tp K [.int a, .int b])) (h2 : EvX tb σ H (Tp K [.int c, .int d])) : Ev (tOp (rNeD K) ta tb) σ H (.bl (!(decide (a = c) && decide (b = d)))) := ev_op2X h1 h2 (by
  rintro _ _ H1 e ⟨p, rfl, hp⟩ ⟨q, rfl, hq⟩
  rw [← eqv_two]
  exact rv_neD (fun H2 e2 => dp_two (ex_t e2 hp)) (fun H2 e2 => dp_two (ex_t e2 hq)) (shaped_two _ _) (shaped_two _ _))
theorem s_dputX {d : Addr} {kvs : List (Key × V)} {k : Key} (hv : EvX tv σ H P) (hd : Ev td σ H (.ref d)) (hk : Ev tk σ H (kV k)) (h : H d = some (.dK kvs)) (hl : kvs.length < 100000) (hm : ∀ v H1 H2, Ex H1 H2 → P v H1 → P v H2)
    (c : ∀ v H1, Ex H H1 → P v H1 → D.nx σ (upd H1 d (.dK (putK kvs k v)))) : sDPut td tk tv D σ H :=
  hv H (Ex.refl H) _ fun v H1 e1 p1 => hd H1 e1 _ fun H2 e2 => hk H2 (e1.trans e2) _ fun H3 e3 => ⟨d, _, rfl, DPut.k (((e1.trans e2).trans e3) _ _ h) (sz_lt hl), c v H3 ((e1.trans e2).trans e3) (hm v H1 H3 (e2.trans e3) p1)⟩
theorem PgAt.put {d q : Addr} {p : Pg} {n : Nm} {s : Int × Int} {kvs : List (Key × V)} (hd : H d = some (.dK kvs)) (h : PgV K H kvs p ∧ (p.map (·.1)).Nodup ∧ (∀ e ∈ p, NmOk e.1) ∧ p.length ≤ 1000) (hn : NmOk n) (hq : SqT K H q [.int s.1, .int s.2]) (hl : p.length < 1000) :
    PgAt K (upd H d (.dK (putK kvs (.inr (ofL n)) (.ref q)))) d (putP p n s) :=
  ⟨_, upd_same, (h.1.put hq).to fun _ _ => upd_t hd, putP_nd h.2.1, putP_ok h.2.2.1 hn, Nat.le_trans putP_len hl⟩
theorem s_pgput {d : Addr} {p : Pg} {n : Nm} {s : Int × Int} (hv : EvX tv σ H (Tp K [.int s.1, .int s.2])) (hd : Ev td σ H (.ref d)) (hk : Ev tk σ H (.str (ofL n))) (hp : PgAt K H d p) (hn : NmOk n) (hl : p.length < 1000)
    (c : ∀ H1 kvs, Ex H H1 → PgAt K (upd H1 d (.dK kvs)) d (putP p n s) → D.nx σ (upd H1 d (.dK kvs))) : sDPut td tk tv D σ H := by
  obtain ⟨kvs, h1, h2, h3, h4, h5⟩ := hp
  refine s_dputX (k := .inr (ofL n)) hv hd hk h1 (by rw [h2.len]; omega) (fun v H1 H2 e ⟨q, a, b⟩ => ⟨q, a, ex_t e b⟩) ?_
  rintro _ H1 e1 ⟨q, rfl, hq⟩
  exact c H1 _ e1 (PgAt.put (e1 _ _ h1) ⟨h2.mono e1, h3, h4, h5⟩ hn hq hl)
theorem PgAt.upd {d a : Addr} {p : Pg} {kvs : List (Key × V)} {o : HO} (hd : H d = some (.dK kvs)) (hne : a ≠ d) (h : PgAt K H a p) : PgAt K (L2.upd H d o) a p :=
  let ⟨ks, h1, h2, h3⟩ := h; ⟨ks, by rw [upd_ne hne]; exact h1, h2.to fun _ _ => upd_t hd, h3⟩
theorem PgRd.upd {d a : Addr} {p : Pg} {kvs : List (Key × V)} {o : HO} (hd : H d = some (.dK kvs)) (hne : a ≠ d) (h : PgRd K H a p) : PgRd K (L2.upd H d o) a p := by
  obtain ⟨ks, h1, h2, h3⟩ := h
  refine ⟨ks, ?_, h2.to fun _ _ => upd_t hd, h3⟩
  rcases h1 with h1 | ⟨f, h1⟩
  · exact .inl (by rw [upd_ne hne]; exact h1)
  · exact .inr ⟨f, by rw [upd_ne hne]; exact h1⟩
theorem PgAt.nil {d : Addr} (h : H d = some (.dK [])) : PgAt K H d [] := ⟨[], h, .nil, List.nodup_nil, (fun e he => by cases he), by decide⟩
end

/-! ### pages joined, as the law says it -/
def gr (a b : Int × Int) : Int × Int := (mx a.1 b.1, mx a.2 b.2)
def joinG (p q : Pg) (n : Nm) : Option (Int × Int) := match getP q n with
  | none => getP p n
  | some s => some (gr s ((getP p n).getD (0, 0)))
theorem getP_cons (e : Nm × Int × Int) (p : Pg) (n : Nm) : getP (e :: p) n = if e.1 = n then some e.2 else getP p n := by
  unfold getP
  rw [List.find?_cons]
  by_cases h : e.1 = n
  · rw [decide_eq_true h, if_pos h]
    rfl
  · rw [decide_eq_false h, if_neg h]
theorem getP_app (p r : Pg) (n : Nm) : getP (p ++ r) n = match getP p n with | some s => some s | none => getP r n := by
  induction p with
  | nil => rfl
  | cons e p ih =>
    rw [List.cons_append, getP_cons, getP_cons, ih]
    by_cases h : e.1 = n
    · rw [if_pos h, if_pos h]
    · rw [if_neg h, if_neg h]
theorem getP_none {p : Pg} {n : Nm} (h : n ∉ p.map (·.1)) : getP p n = none := by
  cases c : getP p n with
  | none => rfl
  | some s =>
    unfold getP at c
    cases d : p.find? fun e => decide (e.1 = n) with
    | none => rw [d] at c; cases c
    | some e =>
      have h1 := List.mem_of_find?_eq_some d
      have h2 : (fun e : Nm × Int × Int => decide (e.1 = n)) e = true := List.find?_some (p := fun e : Nm × Int × Int => decide (e.1 = n)) d
      exact absurd (List.mem_map.mpr ⟨e, h1, of_decide_eq_true h2⟩) h
theorem getP_is {p : Pg} {n : Nm} {s : Int × Int} (h : getP p n = some s) : (n, s) ∈ p := by
  unfold getP at h
  cases d : p.find? fun e => decide (e.1 = n) with
  | none => rw [d] at h; cases h
  | some e =>
    rw [d] at h
    have h1 := List.mem_of_find?_eq_some d
    have h2 : (fun e : Nm × Int × Int => decide (e.1 = n)) e = true := List.find?_some (p := fun e : Nm × Int × Int => decide (e.1 = n)) d
    have h3 : e.1 = n := of_decide_eq_true h2
    have h4 : e.2 = s := Option.some.inj h
    obtain ⟨x, y⟩ := e
    simp only at h3 h4
    rw [← h3, ← h4]
    exact h1
theorem getP_put (p : Pg) (n m : Nm) (s : Int × Int) : getP (putP p n s) m = if m = n then some s else getP p m := by
  by_cases h : n ∈ p.map (·.1)
  · have e : putP p n s = p.map (fun e => if e.1 = n then (e.1, s) else e) := by
      unfold putP
      rw [if_pos]
      obtain ⟨x, h1, h2⟩ := List.mem_map.mp h
      exact List.any_eq_true.mpr ⟨x, h1, decide_eq_true h2⟩
    rw [e]
    clear e
    have : ∀ r : Pg, getP (r.map (fun e => if e.1 = n then (e.1, s) else e)) m = if m = n then (if n ∈ r.map (·.1) then some s else none) else getP r m := by
      intro r
      induction r with
      | nil => by_cases c : m = n <;> simp [c, getP]
      | cons x r ih =>
        rw [List.map_cons, getP_cons, ih, getP_cons, List.map_cons]
        by_cases c : x.1 = n
        · rw [if_pos c]
          by_cases d : m = n
          · rw [if_pos (by rw [c, d]), if_pos d, if_pos (by rw [c]; exact List.mem_cons_self)]
          · rw [if_neg (show ¬ (x.1, s).1 = m by rw [show (x.1, s).1 = x.1 from rfl, c]; exact fun z => d z.symm), if_neg d, if_neg d, if_neg (by rw [c]; exact fun z => d z.symm)]
        · rw [if_neg c]
          by_cases d : m = n
          · rw [if_neg (by rw [d]; exact c), if_pos d, if_pos d]
            by_cases g : n ∈ r.map (·.1)
            · rw [if_pos g, if_pos (List.mem_cons_of_mem _ g)]
            · rw [if_neg g, if_neg]
              intro z
              rcases List.mem_cons.mp z with z | z
              · exact c z.symm
              · exact g z
          · rw [if_neg d, if_neg d]
    rw [this p]
    by_cases c : m = n
    · rw [if_pos c, if_pos c, if_pos h]
    · rw [if_neg c, if_neg c]
  · rw [putP_new h, getP_app]
    by_cases c : m = n
    · rw [if_pos c, c, getP_none h, getP_cons, if_pos rfl]
    · rw [if_neg c]
      cases getP p m with
      | some s => rfl
      | none =>
        show getP [(n, s)] m = none
        rw [getP_cons, if_neg (fun z => c z.symm)]
        rfl
theorem perm_get {p q : Pg} (h1 : (p.map (·.1)).Nodup) (h2 : (q.map (·.1)).Nodup) (h : ∀ n, getP p n = getP q n) : p.Perm q := by
  have nd : ∀ {r : Pg}, (r.map (·.1)).Nodup → r.Nodup := fun {r} hr => (List.pairwise_map.mp hr).imp fun {a b} g z => g (by rw [z])
  refine (List.perm_ext_iff_of_nodup (nd h1) (nd h2)).mpr fun e => ⟨fun he => ?_, fun he => ?_⟩
  · have := getP_mem h1 e he
    rw [h] at this
    exact getP_is this
  · have := getP_mem h2 e he
    rw [← h] at this
    exact getP_is this
theorem getP_take {q : Pg} {i : Nat} {e : Nm × Int × Int} (hn : (q.map (·.1)).Nodup) (h : q[i]? = some e) : getP (q.take i) e.1 = none ∧ ∀ m, getP (q.take (i + 1)) m = if e.1 = m then some e.2 else getP (q.take i) m := by
  have hno : e.1 ∉ (q.take i).map (·.1) := fun z => by
    have hi : i < q.length := (List.getElem?_eq_some_iff.mp h).1
    have he : q[i] = e := (List.getElem?_eq_some_iff.mp h).2
    have hsp := (List.take_append_drop i q).symm
    rw [hsp, List.map_append, List.nodup_append] at hn
    refine hn.2.2 _ z e.1 ?_ rfl
    rw [List.drop_eq_getElem_cons hi, he]
    exact List.mem_cons_self
  have h0 := getP_none hno
  refine ⟨h0, fun m => ?_⟩
  rw [List.take_succ, h, getP_app]
  show (match getP (q.take i) m with | some s => some s | none => getP [e] m) = _
  by_cases c : e.1 = m
  · rw [if_pos c, ← c, h0]
    show getP [e] e.1 = _
    rw [getP_cons, if_pos rfl]
  · rw [if_neg c]
    cases getP (q.take i) m with
    | some s => rfl
    | none =>
      show getP [e] m = none
      rw [getP_cons, if_neg c]
      rfl

/-! ### the program's joined -/
theorem mem_ofL {n : Nm} {ys : List Str} : ofL n ∈ ys ↔ n ∈ ys.map fun y => y.cps.toList := by
  rw [List.mem_map]
  exact ⟨fun h => ⟨_, h, rfl⟩, fun ⟨y, h, e⟩ => by rw [← e, ofL_eta]; exact h⟩
theorem any_names {K : PySem.W.Frag} {H : Hp} {kvs : List (Key × V)} {p : Pg} (h : PgV K H kvs p) (n : Nm) : (kvs.any fun kv => decide (kv.1 = .inr (ofL n))) = true ↔ n ∈ p.map (·.1) := by
  rw [h.any n, List.any_eq_true, List.mem_map]
  exact ⟨fun ⟨e, h1, h2⟩ => ⟨e, h1, of_decide_eq_true h2⟩, fun ⟨e, h1, h2⟩ => ⟨e, h1, decide_eq_true h2⟩⟩
theorem keys_text {K : PySem.W.Frag} {H : Hp} {kvs : List (Key × V)} {p : Pg} (h : PgV K H kvs p) (k : Key) (hk : (kvs.any fun kv => decide (kv.1 = k)) = true) : ∃ z, k = .inr z := by
  obtain ⟨kv, h1, h2⟩ := List.any_eq_true.mp hk
  obtain ⟨i, hi, rfl⟩ := List.getElem_of_mem h1
  obtain ⟨e, _, h3, _⟩ := h.at (List.getElem?_eq_getElem hi)
  exact ⟨_, (of_decide_eq_true h2).symm.trans h3⟩
section
variable {P : Program} {w : World} {K : PySem.W.Frag} {σ : L2.St} {H H' : Hp} {ta tb : TE}
theorem x_names {a b : Addr} {p q : Pg} (h1 : Ev ta σ H (.ref a)) (h2 : Ev tb σ H (.ref b)) (hp : PgRd K H a p) (hq : PgRd K H b q) (hl : p.length + q.length ≤ 1000) :
    EvX (tCB (rSortSet P w) (tCons (tOp (rOrSet P w) (tCB (rSetDict P w) (tCons ta tNil)) (tCB (rSetDict P w) (tCons tb tNil))) tNil)) σ H (fun v H2 => ∃ ns : List Nm, Ls K ((ns.map ofL).map V.str) v H2 ∧ (∀ n, n ∈ ns ↔ n ∈ p.map (·.1) ∨ n ∈ q.map (·.1)) ∧ RisingN ns ∧ ns.length ≤ p.length + q.length) := fun H1 e Q k =>
  h1 H1 e _ fun H2 e2 => by
    obtain ⟨kp, hp1, hp2, _⟩ := hp.mono (e.trans e2)
    have lp := hp2.len
    refine ⟨a, kp, rfl, hp1, by omega, fun p1 m1 hm1 hn1 => ?_⟩
    have e3 : Ex H2 (upd H2 p1 (STo P w p1 (fun k => kp.any fun kv => decide (kv.1 = k)) m1)) := Ex.new hn1
    have s1 : upd H2 p1 (STo P w p1 (fun k => kp.any fun kv => decide (kv.1 = k)) m1) p1 = _ := upd_same
    generalize upd H2 p1 (STo P w p1 (fun k => kp.any fun kv => decide (kv.1 = k)) m1) = H3 at e3 s1
    refine h2 H3 ((e.trans e2).trans e3) _ fun H4 e4 => ?_
    obtain ⟨kq, hq1, hq2, _⟩ := hq.mono (((e.trans e2).trans e3).trans e4)
    have lq := hq2.len
    refine ⟨b, kq, rfl, hq1, by omega, fun p2 m2 hm2 hn2 => ?_⟩
    have s2 := e4 _ _ s1
    have hne : p2 ≠ p1 := fun z => by rw [z, s2] at hn2; cases hn2
    refine ⟨p1, p2, _, _, m1, m2, rfl, rfl, by rw [upd_ne (Ne.symm hne)]; exact s2, upd_same, hne, by omega, fun p3 m3 hm3 hn3 => ?_⟩
    refine ⟨p3, _, m3, rfl, upd_same, fun z hz => ?_, by omega, fun ys r hys hlen hpw hr => ?_⟩
    · rw [Bool.or_eq_true] at hz
      rcases hz with hz | hz
      · exact keys_text hp2 z hz
      · exact keys_text hq2 z hz
    · have eN : Ex H1 _ := (((e2.trans e3).trans e4).trans (Ex.new hn2)).trans ((Ex.new hn3).trans (Ex.new (o := .lst (ys.map V.str)) hr))
      refine k _ _ eN ⟨ys.map fun y => y.cps.toList, ⟨r, rfl, ?_⟩, fun n => ?_, List.pairwise_map.mpr hpw, by rw [List.length_map]; omega⟩
      · have : (ys.map fun y => y.cps.toList).map ofL = ys := by
          rw [List.map_map]
          exact List.map_id'' (fun y => ofL_eta y) ys
        rw [this]
        exact sq_of upd_same
      · rw [← mem_ofL, hys, Bool.or_eq_true, any_names hp2, any_names hq2]
end
theorem joinG_of {p q : Pg} (hp : PgPos p) {n : Nm} (h : n ∈ p.map (·.1) ∨ n ∈ q.map (·.1)) : joinG p q n = some (gr ((getP p n).getD (0, 0)) ((getP q n).getD (0, 0))) := by
  unfold joinG
  cases c : getP q n with
  | some s =>
    show some (gr s _) = some (gr _ s)
    unfold gr
    rw [mx_comm s.1, mx_comm s.2]
  | none =>
    have hn : n ∈ p.map (·.1) := h.resolve_right fun z => by
      obtain ⟨s, hs⟩ := getP_some z
      rw [hs] at c
      cases c
    obtain ⟨s, hs⟩ := getP_some hn
    have h1 := hp _ (getP_is hs)
    rw [hs]
    show some s = some (gr s (0, 0))
    unfold gr mx
    unfold ShPos at h1
    simp only at h1
    rw [if_neg (by show ¬ (0 : Int) > s.1; omega), if_neg (by show ¬ (0 : Int) > s.2; omega)]
theorem joinG_none {p q : Pg} {n : Nm} (h : ¬ (n ∈ p.map (·.1) ∨ n ∈ q.map (·.1))) : joinG p q n = none := by
  unfold joinG
  rw [getP_none fun z => h (.inr z), getP_none fun z => h (.inl z)]
def JoV (K : PySem.W.Frag) (H : Hp) (p q : Pg) : VP := fun v H2 => ∃ d r, v = .ref d ∧ H d = none ∧ PgAt K H2 d r ∧ (∀ n, getP r n = joinG p q n) ∧ RisingN (r.map (·.1)) ∧ r.length ≤ p.length + q.length
instance {K : PySem.W.Frag} {H : Hp} {p q : Pg} : Mono (JoV K H p q) := ⟨fun e ⟨d, r, a, b, c, f⟩ => ⟨d, r, a, b, c.mono e, f⟩⟩
theorem getP_len {p q r : Pg} (hr : (r.map (·.1)).Nodup) (h : ∀ n, getP r n = joinG p q n) : ∀ n, n ∈ r.map (·.1) ↔ n ∈ p.map (·.1) ∨ n ∈ q.map (·.1) := fun n => by
  constructor
  · intro h1
    obtain ⟨s, hs⟩ := getP_some h1
    by_cases c : n ∈ p.map (·.1) ∨ n ∈ q.map (·.1)
    · exact c
    · rw [h, joinG_none c] at hs
      cases hs
  · intro h1
    by_cases c : n ∈ r.map (·.1)
    · exact c
    · have h2 := getP_none c
      rw [h] at h2
      unfold joinG at h2
      rcases h1 with h1 | h1
      · obtain ⟨s, hs⟩ := getP_some h1
        cases d : getP q n with
        | none => rw [d] at h2; rw [hs] at h2; cases h2
        | some t => rw [d] at h2; cases h2
      · obtain ⟨s, hs⟩ := getP_some h1
        rw [hs] at h2
        cases h2
section
variable {P : Program} {w : World} {K : PySem.W.Frag} {mg : Str → Option Value} {base : Heap}
abbrev spJoined (K : PySem.W.Frag) : Sp := SpF (fun x : (Addr × Addr) × Pg × Pg => [.ref x.1.1, .ref x.1.2]) (fun x H => PgRd K H x.1.1 x.2.1 ∧ PgRd K H x.1.2 x.2.2 ∧ PgPos x.2.1 ∧ x.2.1.length + x.2.2.length ≤ 900) (fun x H => JoV K H x.2.1 x.2.2)
theorem x_joined {σ : L2.St} {H : Hp} {ta tb : TE} {E : XK} {a b : Addr} {p q : Pg} (h1 : Ev ta σ H (.ref a)) (h2 : Ev tb σ H (.ref b)) (hp : PgRd K H a p) (hq : PgRd K H b q) (hpp : PgPos p) (hl : p.length + q.length ≤ 900) :
    EvX (tCall (spJoined K) [] E (tCons ta (tCons tb tNil))) σ H (JoV K H p q) := x_call2 (x_ev h1) (x_ev h2) (by
  rintro _ _ H1 e rfl rfl
  exact sx_of ((a, b), p, q) (fun H2 e2 => ⟨hp.mono (e.trans e2), hq.mono (e.trans e2), hpp, hl⟩) fun _ _ _ e2 _ ⟨d, r, h1, h2, h3⟩ => ⟨d, r, h1, fresh_back (e.trans e2) h2, h3⟩)
theorem ok_joined (T : Txt K mg) : FnOk P w K mg base CX0 2 T.a_joined T.d_joined ["one", "other"] (spJoined K) := by
  refine T.h_joined.F.ok sc_joined (fun vs H Q E h => ?_) (fun cdv A outer s H vs Q E hr h => ?_)
  · obtain ⟨c, rfl, _⟩ := h
    rfl
  · obtain ⟨⟨⟨a, b⟩, p, q⟩, rfl, ⟨hp, hq, hpp, hl⟩, k⟩ := h
    simp only at hp hq hpp hl k
    refine ⟨_, (pss_cons (ps_set (i := 2) sc_joined.nd rfl (by first | exact Or.inl rfl | exact Or.inr rfl) (pe_callB (gc_sortedSet rfl) (by rfl) T.n_sorted (by decide +kernel) (pa_cons (pe_op gc_or_set (pe_callTy (gc_set_dict rfl) (by rfl) T.n_set (by decide +kernel) (pa_cons (pv 0) pa_nil)) (pe_callTy (gc_set_dict rfl) (by rfl) T.n_set (by decide +kernel) (pa_cons (pv 1) pa_nil))) pa_nil))) (pss_one (ps_ret (pe_dc (own := [("name", 3)]) (by rfl) sc_joined.nd (pi_list (pv 2)) (blkOk_by (own := [("name", 3)]) (N := ["one", "other", "names", "name"]) (sc := defScope s_joined) (by decide +kernel)) (fun _ _ _ _ _ => (pg_name (i := 3) sc_joined.nd rfl (by first | exact Or.inl rfl | exact Or.inr rfl))) (fun _ _ _ _ _ => pts_nil) (fun _ _ _ _ _ => (pv 3)) (fun _ _ _ _ _ => (pe_call (ok_greater T) (hr.mono (by decide)) rfl T.h_greater.m T.h_greater.F.kp T.h_greater.b .nil pass0 (pa_cons (pe_call (ok_share_of T) (hr.mono (by decide)) rfl T.h_share_of.m T.h_share_of.F.kp T.h_share_of.b .nil pass0 (pa_cons (pv 0) (pa_cons (pv 3) pa_nil))) (pa_cons (pe_call (ok_share_of T) (hr.mono (by decide)) rfl T.h_share_of.m T.h_share_of.F.kp T.h_share_of.b .nil pass0 (pa_cons (pv 1) (pa_cons (pv 3) pa_nil))) pa_nil)))))))), ?_⟩
    obtain ⟨_, _, _, _, hpo, _⟩ := id hp
    obtain ⟨_, _, _, _, hqo, _⟩ := id hq
    refine qx_asg (x_names (K := K) (ev_var rfl) (ev_var rfl) hp hq (by omega)) fun v H1 e1 hv => ?_
    obtain ⟨ns, ⟨L, rfl, hL⟩, hmem, hris, hlen⟩ := hv
    have hnm : ∀ n ∈ ns, NmOk n := fun n hn => by
      rcases (hmem n).mp hn with h | h
      · obtain ⟨e, he, rfl⟩ := List.mem_map.mp h
        exact hpo e he
      · obtain ⟨e, he, rfl⟩ := List.mem_map.mp h
        exact hqo e he
    have hp1 := hp.mono e1
    have hq1 := hq.mono e1
    let f : Nm → Int × Int := fun n => gr ((getP p n).getD (0, 0)) ((getP q n).getD (0, 0))
    refine ⟨.ref L, rfl, L, rfl, ⟨_, hL⟩, fun D hD => ?_⟩
    refine dc_walk (walk_list (K := K) (a := L) (xs := (ns.map ofL).map V.str)) (fun i H' => Ex H1 H' ∧ ∃ r, PgAt K H' D r ∧ List.Sublist (r.map (·.1)) (ns.take i) ∧ ∀ m, getP r m = if m ∈ ns.take i then some (f m) else none) ⟨Ex.new hD, [], PgAt.nil upd_same, by rw [List.take_zero]; exact List.Sublist.slnil, fun m => by rw [List.take_zero, if_neg List.not_mem_nil]; rfl⟩ (fun i H' hi p => ex_l p.1 hL) ?_ ?_
    · rintro i x H' H'' hi ⟨e2, r, hr, hsub, hget⟩ ⟨rfl, hx⟩
      have hi' : i < ns.length := by simpa using hi
      have hn : ns[i]? = some ns[i] := List.getElem?_eq_getElem hi'
      have hx' : x = .str (ofL ns[i]) := by
        rw [List.getElem?_map, List.getElem?_map, hn] at hx
        exact (Option.some.inj hx).symm
      have htk : ns.take (i + 1) = ns.take i ++ [ns[i]] := by
        rw [List.take_succ, hn]
        rfl
      have hno := hnm ns[i] (List.getElem_mem hi')
      generalize ns[i] = n at hx' htk hno
      subst hx'
      refine ⟨rfl, ?_⟩
      refine et_yes H'' (Ex.refl _) _ fun H3 e3 => ?_
      rw [if_pos rfl]
      refine ⟨.str (ofL n), rfl, ?_⟩
      have e13 := e2.trans e3
      refine x_greater (K := K) (x_shareOf (ev_var rfl) (ev_var rfl) (hp1.mono e13)) (x_shareOf (ev_var rfl) (ev_var rfl) (hq1.mono e13)) H3 (Ex.refl _) _ fun v H4 e4 hv => ?_
      obtain ⟨t, rfl, ht⟩ := hv
      have hlr : r.length ≤ i := by
        have := hsub.length_le
        rw [List.length_map, List.length_take] at this
        omega
      obtain ⟨kvs, hk1, hk2⟩ := hr.mono (e3.trans e4)
      refine ⟨kvs, .inr (ofL n), rfl, hk1, sz_lt (by rw [hk2.1.len]; omega), Ex.mut (e13.trans e4) hD, putP r n (f n), PgAt.put hk1 hk2 hno ht (by omega), ?_, fun m => ?_⟩
      · rw [putP_names, htk]
        split
        · exact hsub.trans (List.sublist_append_left _ _)
        · exact hsub.append (List.Sublist.refl _)
      · rw [getP_put, hget, htk]
        by_cases c : m = n
        · rw [if_pos c, if_pos (List.mem_append_right _ (by rw [c]; exact List.mem_cons_self)), c]
        · rw [if_neg c]
          by_cases d : m ∈ ns.take i
          · rw [if_pos d, if_pos (List.mem_append_left _ d)]
          · rw [if_neg d, if_neg]
            intro z
            rcases List.mem_append.mp z with z | z
            · exact d z
            · exact c (List.mem_singleton.mp z)
    · rintro H' ⟨e2, r, hr, hsub, hget⟩
      have hln : ((ns.map ofL).map V.str).length = ns.length := by simp
      rw [hln, List.take_length] at hsub hget
      refine k _ _ (e1.trans e2) ⟨D, r, rfl, fresh_back e1 hD, hr, fun m => ?_, hris.sublist hsub, ?_⟩
      · rw [hget]
        by_cases c : m ∈ ns
        · rw [if_pos c, joinG_of hpp ((hmem m).mp c)]
        · rw [if_neg c, joinG_none fun z => c ((hmem m).mpr z)]
      · have := hsub.length_le
        rw [List.length_map] at this
        omega
end

--CUT nm
section
variable {P : Program} {w : World} {K : PySem.W.Frag} {mg : Str → Option Value} {base : Heap}
abbrev argsI : Int ⊕ (V × String) → List V := fun x => match x with | .inl w => [.int w] | .inr (v, _) => [v]
abbrev preI (K : PySem.W.Frag) : Int ⊕ (V × String) → Hp → Prop := fun x H => match x with | .inl _ => True | .inr (v, t) => TyX K H v (.type t) ∧ (t = "bool" ∨ kitB t "int" = some false)
abbrev postI : Int ⊕ (V × String) → Hp → VP := fun x _ => match x with | .inl _ => Is (.bl true) | .inr _ => Is (.bl false)
abbrev postA : Int ⊕ (V × String) → Hp → VP := fun x _ => match x with | .inl n => Is (.bl (decide (1 ≤ n) && decide (n ≤ 1000000000))) | .inr _ => Is (.bl false)
abbrev spWholeX (K : PySem.W.Frag) : Sp := SpF argsI (preI K) postI
abbrev spAmount (K : PySem.W.Frag) : Sp := SpF argsI (preI K) postA
theorem sv_wholeX {n : Int} {H : Hp} : SpV (spWholeX K) [.int n] H (.bl true) := sv_of (sx_of (α := Int ⊕ (V × String)) (args := argsI) (.inl n) (fun _ _ => trivial) fun _ _ _ _ _ h => h)
theorem sv_noWhole {v : V} {t : String} {H : Hp} (h : TyX K H v (.type t)) (ht : t = "bool" ∨ kitB t "int" = some false) : SpV (spWholeX K) [v] H (.bl false) := sv_of (sx_of (α := Int ⊕ (V × String)) (args := argsI) (.inr (v, t)) (fun _ e => ⟨tyx_mono e h, ht⟩) fun _ _ _ _ _ h => h)
theorem sv_amount {n : Int} {H : Hp} : SpV (spAmount K) [.int n] H (.bl (decide (1 ≤ n) && decide (n ≤ 1000000000))) := sv_of (sx_of (α := Int ⊕ (V × String)) (args := argsI) (.inl n) (fun _ _ => trivial) fun _ _ _ _ _ h => h)
theorem sv_noAmount {v : V} {t : String} {H : Hp} (h : TyX K H v (.type t)) (ht : t = "bool" ∨ kitB t "int" = some false) : SpV (spAmount K) [v] H (.bl false) := sv_of (sx_of (α := Int ⊕ (V × String)) (args := argsI) (.inr (v, t)) (fun _ e => ⟨tyx_mono e h, ht⟩) fun _ _ _ _ _ h => h)
theorem ok_is_whole (T : Txt K mg) : FnOk P w K mg base CX0 1 T.a_is_whole T.d_is_whole ["thing"] (spWholeX K) := by
  refine T.h_is_whole.F.ok sc_is_whole (fun vs H Q E h => ?_) (fun cdv A outer s H vs Q E hr h => ?_)
  · obtain ⟨x, rfl, _⟩ := h
    rcases x with x | ⟨x, t⟩ <;> rfl
  · obtain ⟨x, rfl, hp, k⟩ := h
    refine ⟨_, (pss_one (ps_ret (pe_and (pe_callB call_isi (by rfl) T.n_isinstance (by decide +kernel) (pa_cons (pv 0) (pa_cons (pe_bltn (v := .ty "int") (u := .type "int") (by rfl) T.n_int (by decide +kernel) rfl) pa_nil))) (pe_one (pe_not (pe_callB call_isi (by rfl) T.n_isinstance (by decide +kernel) (pa_cons (pv 0) (pa_cons (pe_bltn (v := .ty "bool") (u := .type "bool") (by rfl) T.n_bool (by decide +kernel) rfl) pa_nil)))))))), ?_⟩
    rcases x with x | ⟨v, t⟩
    · have hp := hp
      refine s_ret (by walk_at "ev") fun H3 e3 => ?_
      exact k _ _ (by walk_at "ex") rfl
    · have hp := hp
      obtain ⟨hp, rfl | ht⟩ := hp
      · refine s_ret (v := .bl (true && !true)) (ev_andV (ev_cb (ea_cons (ev_var rfl) (ea_cons ev_c ea_nil)) (rc_isi (fun H1 e1 => tyx_mono e1 hp) (by decide +kernel))) fun _ => ev_notV (ev_cb (ea_cons (ev_var rfl) (ea_cons ev_c ea_nil)) (rc_isi (fun H1 e1 => tyx_mono e1 hp) (by decide +kernel)))) fun H3 e3 => ?_
        exact k _ _ (by walk_at "ex") rfl
      · refine s_ret (v := .bl (false && false)) (ev_andV (ev_cb (ea_cons (ev_var rfl) (ea_cons ev_c ea_nil)) (rc_isi (fun H1 e1 => tyx_mono e1 hp) ht)) (fun h => by cases h)) fun H3 e3 => ?_
        exact k _ _ (by walk_at "ex") rfl
end

/-! ### names and amounts -/
def lowC (c : Nat) : Bool := decide (97 ≤ c) && decide (c ≤ 122)
def nameOk (w : Str) : Bool := (decide ((1 : Int) ≤ w.length) && decide ((w.length : Int) ≤ 8)) && w.cps.toList.all lowC
theorem low_lt (c : Nat) : (!decide ((Str.ofString "a").cps.toList > [c])) = decide (97 ≤ c) := by
  have e : (Str.ofString "a").cps.toList = [97] := by decide +kernel
  rw [e]
  by_cases h : 97 ≤ c
  · rw [decide_eq_true h]
    have : ¬ ([c] < [97]) := by
      intro z
      rcases List.cons_lt_cons_iff.mp z with z | z
      · omega
      · exact absurd z.2 (by simp)
    simpa using this
  · rw [decide_eq_false h]
    have : [c] < [97] := List.cons_lt_cons_iff.mpr (Or.inl (by omega))
    simpa using this
theorem low_gt (c : Nat) : (!decide ((Str.ofString "z").cps.toList < [c])) = decide (c ≤ 122) := by
  have e : (Str.ofString "z").cps.toList = [122] := by decide +kernel
  rw [e]
  by_cases h : c ≤ 122
  · rw [decide_eq_true h]
    have : ¬ ([122] < [c]) := by
      intro z
      rcases List.cons_lt_cons_iff.mp z with z | z
      · omega
      · exact absurd z.2 (by simp)
    simpa using this
  · rw [decide_eq_false h]
    have : [122] < [c] := List.cons_lt_cons_iff.mpr (Or.inl (by omega))
    simpa using this
section
variable {P : Program} {w : World} {K : PySem.W.Frag} {mg : Str → Option Value} {base : Heap}
abbrev argsN : Str ⊕ (V × String) → List V := fun x => match x with | .inl w => [.str w] | .inr (v, _) => [v]
abbrev preN (K : PySem.W.Frag) : Str ⊕ (V × String) → Hp → Prop := fun x H => match x with | .inl w => w.cps.toList.length ≤ 30000 | .inr (v, t) => TyX K H v (.type t) ∧ kitB t "str" = some false
abbrev postN : Str ⊕ (V × String) → Hp → VP := fun x _ => match x with | .inl w => Is (.bl (nameOk w)) | .inr _ => Is (.bl false)
abbrev spName (K : PySem.W.Frag) : Sp := SpF argsN (preN K) postN
theorem sv_name {s : Str} {H : Hp} (h : s.cps.toList.length ≤ 30000) : SpV (spName K) [.str s] H (.bl (nameOk s)) := sv_of (sx_of (α := Str ⊕ (V × String)) (args := argsN) (.inl s) (fun _ _ => h) fun _ _ _ _ _ h => h)
theorem sv_noName {v : V} {t : String} {H : Hp} (h : TyX K H v (.type t)) (ht : kitB t "str" = some false) : SpV (spName K) [v] H (.bl false) := sv_of (sx_of (α := Str ⊕ (V × String)) (args := argsN) (.inr (v, t)) (fun _ e => ⟨tyx_mono e h, ht⟩) fun _ _ _ _ _ h => h)
theorem ok_is_name (T : Txt K mg) : FnOk P w K mg base CX0 1 T.a_is_name T.d_is_name ["thing"] (spName K) := by
  refine T.h_is_name.F.ok sc_is_name (fun vs H Q E h => ?_) (fun cdv A outer s H vs Q E hr h => ?_)
  · obtain ⟨x, rfl, _⟩ := h
    rcases x with x | ⟨x, t⟩ <;> rfl
  · obtain ⟨x, rfl, hp, k⟩ := h
    refine ⟨_, (pss_cons (ps_if (PW.pt (pw_or (pt_not (pt_val (pe_callB call_isi (by rfl) T.n_isinstance (by decide +kernel) (pa_cons (pv 0) (pa_cons (pe_bltn (v := .ty "str") (u := .type "str") (by rfl) T.n_str (by decide +kernel) rfl) pa_nil))))) (pw_or1 (pt_not (pt_chain op_le op_le pe_int (pe_callB call_len_str (by rfl) T.n_len PySem.boot_len (pa_cons (pv 0) pa_nil)) (pe_glob rfl T.g_LONGEST_NAME.1 T.g_LONGEST_NAME.2)))))) (pss_one (ps_ret pe_bl)) pss_nil) (pss_one (ps_ret (pe_callB (cr_all rfl) (by rfl) T.n_all (by decide +kernel) (pa_cons (pe_lc (own := [("sign", 1)]) (by rfl) sc_is_name.nd (pi_str (pv 0)) (blkOk_by (own := [("sign", 1)]) (N := ["thing", "sign"]) (sc := defScope s_is_name) (by decide +kernel)) (fun _ _ _ _ _ => (pg_name (i := 1) sc_is_name.nd rfl (by first | exact Or.inl rfl | exact Or.inr rfl))) (fun _ _ _ _ _ => pts_nil) (fun _ _ _ _ _ => (pe_chain op_le_str op_le_str pe_str (pv 1) pe_str))) pa_nil))))), ?_⟩
    rcases x with x | ⟨v, t⟩
    · replace hp : x.cps.toList.length ≤ 30000 := hp
      have hp2 : x.length ≤ 100000 := by
        have : x.length = x.cps.toList.length := by show x.cps.size = _; simp
        omega
      refine q_when (by walk_at "ev") (fun hb H1 e1 => ?_) (fun hb H1 e1 => ?_)
      · refine s_ret ev_c fun H2 e2 => k _ _ (by walk_at "ex") ?_
        show _ = _
        unfold nameOk
        simp only [Bool.not_true, Bool.false_or, Bool.not_eq_true'] at hb
        rw [hb]
        rfl
      · refine s_ret (x_all (bs := x.cps.toList.map fun c => (!decide ((Str.ofString "a").cps.toList > [c])) && !decide ((Str.ofString "z").cps.toList < [c])) ?_) fun H2 e2 => k _ _ (by walk_at "ex") ?_
        · rw [List.map_map]
          refine el_lcS _ (ev_var rfl) (by omega) (fun _ => rfl) (fun i c H2 e2 hc => ?_)
          exact ev_chain ev_c (ev_var rfl) rv_leStr (fun _ => ev_c) (fun _ => rv_leStr)
        · show _ = _
          unfold nameOk
          simp only [Bool.not_true, Bool.false_or, Bool.not_eq_false'] at hb
          rw [hb, Bool.true_and, List.all_map]
          congr 2
          funext c
          show _ = lowC c
          unfold lowC
          rw [← low_lt, ← low_gt]
          rfl
    · replace hp : TyX K H v (.type t) ∧ kitB t "str" = some false := hp
      refine q_when (b := true) ?_ (fun hb H1 e1 => ?_) (fun hb H1 e1 => by cases hb)
      · exact et_or (a := true) (b := true) (et_not (a := false) (et_B (ev_cb (ea_cons (ev_var rfl) (ea_cons ev_c ea_nil)) (rc_isi (fun H1 e1 => tyx_mono e1 hp.1) hp.2)))) (fun h => by cases h)
      · exact s_ret ev_c fun H2 e2 => k _ _ (by walk_at "ex") rfl
end

section
variable {P : Program} {w : World} {K : PySem.W.Frag} {mg : Str → Option Value} {base : Heap}
theorem ok_is_amount (T : Txt K mg) : FnOk P w K mg base CX0 2 T.a_is_amount T.d_is_amount ["thing"] (spAmount K) := by
  refine T.h_is_amount.F.ok sc_is_amount (fun vs H Q E h => ?_) (fun cdv A outer s H vs Q E hr h => ?_)
  · obtain ⟨x, rfl, _⟩ := h
    rcases x with x | ⟨x, t⟩ <;> rfl
  · obtain ⟨x, rfl, hp, k⟩ := h
    refine ⟨_, (pss_one (ps_ret (pe_and (pe_call (ok_is_whole T) (hr.mono (by decide)) rfl T.h_is_whole.m T.h_is_whole.F.kp T.h_is_whole.b .nil pass0 (pa_cons (pv 0) pa_nil)) (pe_one (pe_chain op_le op_le pe_int (pv 0) (pe_glob rfl T.g_GREATEST_AMOUNT.1 T.g_GREATEST_AMOUNT.2)))))), ?_⟩
    rcases x with x | ⟨v, t⟩
    · have hp := hp
      refine s_ret (v := .bl (true && (decide (1 ≤ x) && decide (x ≤ 1000000000)))) (ev_andV (ev_call (ea_cons (ev_var rfl) ea_nil) sv_wholeX) fun _ => ?_) fun H3 e3 => ?_
      · exact ev_chain ev_c (ev_var rfl) rv_I0 (fun _ => ev_c) (fun _ => rv_I0)
      · exact k _ _ (by walk_at "ex") rfl
    · have hp := hp
      refine s_ret (v := .bl (false && false)) (ev_andV (ev_call (ea_cons (ev_var rfl) ea_nil) (sv_noWhole hp.1 hp.2)) fun h => by cases h) fun H3 e3 => ?_
      exact k _ _ (by walk_at "ex") rfl
end

def flat3 : V → Bool
  | .int _ => true | .bl _ => true | .str _ => true | .non => true
  | _ => false
def numOk : V → Bool
  | .int n => decide (0 ≤ n) && decide (n < 1000000000000000000000000000000000000000000000000000000000000)
  | _ => false
def shOk0 (xs : List V) : Bool := decide (xs.length = 2) && xs.all numOk
def intV : V → Bool
  | .int _ => true
  | _ => false
section
variable {P : Program} {w : World} {K : PySem.W.Frag} {mg : Str → Option Value} {base : Heap}
theorem sv_wholeV {v : V} {H : Hp} (h : flat3 v = true) : SpV (spWholeX K) [v] H (.bl (intV v)) := by
  cases v with
  | int n => exact sv_wholeX
  | bl b => exact sv_noWhole (t := "bool") (.base (.bl b)) (Or.inl rfl)
  | str s => exact sv_noWhole (t := "str") (.base (.str s)) (Or.inr (by decide +kernel))
  | non => exact sv_noWhole (t := "NoneType") (.base .non) (Or.inr (by decide +kernel))
  | _ => cases h
abbrev argsS : (Addr × List V) ⊕ (V × String) → List V := fun x => match x with | .inl (q, _) => [.ref q] | .inr (v, _) => [v]
abbrev preS (K : PySem.W.Frag) : (Addr × List V) ⊕ (V × String) → Hp → Prop := fun x H => match x with | .inl (q, xs) => SqT K H q xs ∧ xs.all flat3 = true ∧ xs.length ≤ 1000 | .inr (v, t) => TyX K H v (.type t) ∧ kitB t "tuple" = some false
abbrev postS : (Addr × List V) ⊕ (V × String) → Hp → VP := fun x _ => match x with | .inl (_, xs) => Is (.bl (shOk0 xs)) | .inr _ => Is (.bl false)
abbrev spIsShare (K : PySem.W.Frag) : Sp := SpF argsS (preS K) postS
theorem sv_isShare {q : Addr} {xs : List V} {H : Hp} (h : SqT K H q xs) (hf : xs.all flat3 = true) (hl : xs.length ≤ 1000) : SpV (spIsShare K) [.ref q] H (.bl (shOk0 xs)) := sv_of (sx_of (α := (Addr × List V) ⊕ (V × String)) (args := argsS) (.inl (q, xs)) (fun _ e => ⟨ex_t e h, hf, hl⟩) fun _ _ _ _ _ h => h)
theorem sv_noShare {v : V} {t : String} {H : Hp} (h : TyX K H v (.type t)) (ht : kitB t "tuple" = some false) : SpV (spIsShare K) [v] H (.bl false) := sv_of (sx_of (α := (Addr × List V) ⊕ (V × String)) (args := argsS) (.inr (v, t)) (fun _ e => ⟨tyx_mono e h, ht⟩) fun _ _ _ _ _ h => h)
theorem ok_is_share (T : Txt K mg) : FnOk P w K mg base CX0 2 T.a_is_share T.d_is_share ["thing"] (spIsShare K) := by
  refine T.h_is_share.F.ok sc_is_share (fun vs H Q E h => ?_) (fun cdv A outer s H vs Q E hr h => ?_)
  · obtain ⟨x, rfl, _⟩ := h
    rcases x with ⟨x, xs⟩ | ⟨x, t⟩ <;> rfl
  · obtain ⟨x, rfl, hp, k⟩ := h
    refine ⟨_, (pss_cons (ps_if (PW.pt (pw_or (pt_not (pt_val (pe_callB call_isi (by rfl) T.n_isinstance (by decide +kernel) (pa_cons (pv 0) (pa_cons (pe_bltn (v := .ty "tuple") (u := .type "tuple") (by rfl) T.n_tuple (by decide +kernel) rfl) pa_nil))))) (pw_or1 (pt_cmpR op_ne (pe_callB call_len_seq (by rfl) T.n_len PySem.boot_len (pa_cons (pv 0) pa_nil)) pe_int (nomark _))))) (pss_one (ps_ret pe_bl)) pss_nil) (pss_one (ps_ret (pe_callB (cr_all rfl) (by rfl) T.n_all (by decide +kernel) (pa_cons (pe_lc (own := [("number", 1)]) (by rfl) sc_is_share.nd (pi_tup (pv 0)) (blkOk_by (own := [("number", 1)]) (N := ["thing", "number"]) (sc := defScope s_is_share) (by decide +kernel)) (fun _ _ _ _ _ => (pg_name (i := 1) sc_is_share.nd rfl (by first | exact Or.inl rfl | exact Or.inr rfl))) (fun _ _ _ _ _ => pts_nil) (fun _ _ _ _ _ => (pe_and (pe_call (ok_is_whole T) (hr.mono (by decide)) rfl T.h_is_whole.m T.h_is_whole.F.kp T.h_is_whole.b .nil pass0 (pa_cons (pv 1) pa_nil)) (pe_one (pe_chain op_le op_lt pe_int (pv 1) (pe_glob rfl T.g_BEYOND.1 T.g_BEYOND.2)))))) pa_nil))))), ?_⟩
    rcases x with ⟨q, xs⟩ | ⟨v, t⟩
    · obtain ⟨hq, hf, hl⟩ := hp
      refine q_when (b := !true || !decide (V.int (xs.length : Int) = V.int 2)) (et_or (et_not (et_B (ev_cb (ea_cons (ev_var rfl) (ea_cons ev_c ea_nil)) (rc_isi (fun H1 e1 => tyx_tup (ex_t e1 hq)) (by decide +kernel))))) fun _ => et_test (ev_op (ev_cb (ea_cons (ev_var rfl) ea_nil) (rc_lenT hq)) ev_c (rv_ne rfl))) (fun hb H1 e1 => ?_) (fun hb H1 e1 => ?_)
      · refine s_ret ev_c fun H2 e2 => k _ _ (by walk_at "ex") ?_
        show _ = _
        have h2 : ¬ xs.length = 2 := by
          intro z
          rw [z] at hb
          exact absurd hb (by simp)
        unfold shOk0
        rw [decide_eq_false h2]
        rfl
      · have h2 : xs.length = 2 := by
          simp at hb
          omega
        refine s_ret (x_all (bs := xs.map numOk) ?_) fun H2 e2 => k _ _ (by walk_at "ex") ?_
        · rw [List.map_map]
          refine el_lcT _ (ev_var rfl) (ex_t e1 hq) (by omega) (fun _ => rfl) (fun x H2 e2 hx => ?_)
          have hfx : flat3 x = true := List.all_eq_true.mp hf x hx
          refine ev_is (v := .bl (intV x && numOk x)) (ev_andV (ev_call (ea_cons (ev_var rfl) ea_nil) (sv_wholeV hfx)) fun hi => ?_) ?_
          · cases x with
            | int n => exact ev_chain ev_c (ev_var rfl) rv_I0 (fun _ => ev_c) (fun _ => rv_I0)
            | _ => cases hi
          · cases x <;> rfl
        · show _ = _
          unfold shOk0
          rw [decide_eq_true h2, Bool.true_and, List.all_map]
          rfl
    · refine q_when (b := true) ?_ (fun hb H1 e1 => ?_) (fun hb H1 e1 => by cases hb)
      · exact et_or (a := true) (b := true) (et_not (a := false) (et_B (ev_cb (ea_cons (ev_var rfl) (ea_cons ev_c ea_nil)) (rc_isi (fun H1 e1 => tyx_mono e1 hp.1) hp.2)))) (fun h => by cases h)
      · exact s_ret ev_c fun H2 e2 => k _ _ (by walk_at "ex") rfl
end

def keyOk : Key → Bool
  | .inr w => nameOk w
  | .inl _ => false
def KeyLen : Key → Prop
  | .inr w => w.cps.toList.length ≤ 30000
  | .inl _ => True
theorem numOk_int {x : V} (h : numOk x = true) : ∃ n : Int, x = .int n := by
  cases x with
  | int n => exact ⟨n, rfl⟩
  | _ => cases h
/-- what stands as a share: whether it is one that a page may have -/
def ShAt (K : PySem.W.Frag) (H : Hp) (v : V) (b : Bool) : Prop :=
  (∃ q xs, v = .ref q ∧ SqT K H q xs ∧ xs.all flat3 = true ∧ xs.length ≤ 1000 ∧ b = (shOk0 xs && !decide (xs = [.int 0, .int 0]))) ∨ ∃ t, TyX K H v (.type t) ∧ kitB t "tuple" = some false ∧ b = false ∧ (flatB v = true ∨ ∃ a, v = .ref a)
theorem ShAt.mono {K : PySem.W.Frag} {H H' : Hp} {v : V} {b : Bool} (e : Ex H H') (h : ShAt K H v b) : ShAt K H' v b := by
  rcases h with ⟨q, xs, h1, h2, h3⟩ | ⟨t, h1, h2⟩
  · exact .inl ⟨q, xs, h1, ex_t e h2, h3⟩
  · exact .inr ⟨t, tyx_mono e h1, h2⟩
theorem ShAt.lock {K : PySem.W.Frag} {H : Hp} {v : V} {b : Bool} {d : Addr} {od : Obj} {kvs : List (Key × V)} (hd : H d = some (.dK kvs)) (h : ShAt K H v b) : ShAt K (upd H d (.frz od (.dK kvs))) v b := by
  rcases h with ⟨q, xs, h1, h2, h3⟩ | ⟨t, h1, h2⟩
  · exact .inl ⟨q, xs, h1, lock_t hd h2, h3⟩
  · exact .inr ⟨t, lock_ty hd h1, h2⟩
section
variable {K : PySem.W.Frag} {H : Hp} {x y : V}
def rLenD : List V → Hp → VK → Prop := fun xs H Q => ∃ (a : Addr) (kvs : List (Key × V)), xs = [V.ref a] ∧ H a = some (.dK kvs) ∧ Q (.int kvs.length) H
theorem rc_lenD {a : Addr} {kvs : List (Key × V)} (h : H a = some (.dK kvs)) : RC rLenD [.ref a] H (.int (kvs.length : Int)) := fun H1 e _ q => ⟨a, kvs, rfl, e _ _ h, q H1 (Ex.refl H1)⟩
end
section
variable {P : Program} {w : World} {K : PySem.W.Frag} {mg : Str → Option Value} {base : Heap}
abbrev spEntry (K : PySem.W.Frag) : Sp := SpF (fun x : Key × V × Bool => [kV x.1, x.2.1]) (fun x H => KeyLen x.1 ∧ ShAt K H x.2.1 x.2.2) (fun x _ => Is (.bl (keyOk x.1 && x.2.2)))
theorem sv_entry {k : Key} {v : V} {b : Bool} {H : Hp} (hk : KeyLen k) (h : ShAt K H v b) : SpV (spEntry K) [kV k, v] H (.bl (keyOk k && b)) := sv_of (sx_of (k, v, b) (fun _ e => ⟨hk, h.mono e⟩) fun _ _ _ _ _ h => h)
theorem ok_is_entry (T : Txt K mg) : FnOk P w K mg base CX0 3 T.a_is_entry T.d_is_entry ["name", "share"] (spEntry K) := by
  refine T.h_is_entry.F.ok sc_is_entry (fun vs H Q E h => ?_) (fun cdv A outer s H vs Q E hr h => ?_)
  · obtain ⟨x, rfl, _⟩ := h
    rfl
  · obtain ⟨⟨key, v, b⟩, rfl, ⟨hk, hs⟩, k⟩ := h
    simp only at hk hs k
    refine ⟨_, (pss_one (ps_ret (pe_and (pe_call (ok_is_name T) (hr.mono (by decide)) rfl T.h_is_name.m T.h_is_name.F.kp T.h_is_name.b .nil pass0 (pa_cons (pv 0) pa_nil)) (pe_and (pe_call (ok_is_share T) (hr.mono (by decide)) rfl T.h_is_share.m T.h_is_share.F.kp T.h_is_share.b .nil pass0 (pa_cons (pv 1) pa_nil)) (pe_one (pe_cmpR (op_neD hr.units) (pv 1) (pe_glob rfl T.g_NOTHING.1 T.g_NOTHING.2) (nomark _))))))), ?_⟩
    have hz := T.t_NOTHING
    have hn : Ev (tCall (spName K) [] E0 (tCons (tVar 0) tNil)) (L2.start ["name", "share"] [kV key, v]) H (.bl (keyOk key)) := by
      cases key with
      | inl i => exact ev_call (ea_cons (ev_var rfl) ea_nil) (sv_noName (t := "int") (.base (.int i)) (by decide +kernel))
      | inr s => exact ev_call (ea_cons (ev_var rfl) ea_nil) (sv_name hk)
    rcases hs with ⟨q, xs, rfl, hq, hf, hl, rfl⟩ | ⟨t, hty, ht, rfl, _⟩
    · refine s_ret (v := .bl (keyOk key && (shOk0 xs && !decide (xs = [.int 0, .int 0])))) (ev_andV hn fun _ => ?_) fun H1 e1 => k _ _ e1 rfl
      refine ev_andV (ev_call (ea_cons (ev_var rfl) ea_nil) (sv_isShare hq hf hl)) fun h2 => ?_
      have hx : ∃ a b : Int, xs = [.int a, .int b] := by
        unfold shOk0 at h2
        rw [Bool.and_eq_true] at h2
        have h3 := of_decide_eq_true h2.1
        have h4 := h2.2
        match xs, h3, h4 with
        | [x, y], _, h4 =>
          simp only [List.all_cons, List.all_nil, Bool.and_true, Bool.and_eq_true] at h4
          obtain ⟨a, rfl⟩ := numOk_int h4.1
          obtain ⟨b, rfl⟩ := numOk_int h4.2
          exact ⟨_, _, rfl⟩
      obtain ⟨a, b, rfl⟩ := hx
      refine ev_is (ev_op (ev_var rfl) ev_c (rv_neD (fun H1 e1 => dp_two (ex_t e1 hq)) (fun H1 e1 => dp_two (hz H1)) (shaped_two _ _) (shaped_two _ _))) ?_
      rw [eqv_two]
      congr 2
      by_cases h5 : a = 0
      · by_cases h6 : b = 0
        · rw [h5, h6]
          simp
        · simp [h6]
      · simp [h5]
    · refine s_ret (v := .bl (keyOk key && false)) (ev_andV hn fun _ => ?_) fun H1 e1 => k _ _ e1 rfl
      exact ev_is (v := .bl (false && false)) (ev_andV (ev_call (ea_cons (ev_var rfl) ea_nil) (sv_noShare hty ht)) fun h => by cases h) rfl
abbrev argsP : (Addr × List (Key × V × Bool)) ⊕ (V × String) → List V := fun x => match x with | .inl (d, _) => [.ref d] | .inr (v, _) => [v]
abbrev preP (K : PySem.W.Frag) : (Addr × List (Key × V × Bool)) ⊕ (V × String) → Hp → Prop := fun x H => match x with
  | .inl (d, es) => H d = some (.dK (es.map fun e => (e.1, e.2.1))) ∧ es.length ≤ 30000 ∧ ∀ e ∈ es, KeyLen e.1 ∧ ShAt K H e.2.1 e.2.2
  | .inr (v, t) => TyX K H v (.type t) ∧ kitB t "dict" = some false
def pageB (es : List (Key × V × Bool)) : Bool := decide (es.length ≤ 200) && es.all fun e => keyOk e.1 && e.2.2
abbrev postP : (Addr × List (Key × V × Bool)) ⊕ (V × String) → Hp → VP := fun x _ => match x with | .inl (_, es) => Is (.bl (pageB es)) | .inr _ => Is (.bl false)
abbrev spIsPage (K : PySem.W.Frag) : Sp := SpF argsP (preP K) postP
theorem ShAt.plain {K : PySem.W.Frag} {H : Hp} {v : V} {b : Bool} (h : ShAt K H v b) : flatB v = true ∨ ∃ a, v = .ref a := by
  rcases h with ⟨q, xs, h, _⟩ | ⟨t, _, _, _, h⟩
  · exact .inr ⟨q, h⟩
  · exact h
theorem sx_isPage {d : Addr} {es : List (Key × V × Bool)} {H : Hp} (hd : H d = some (.dK (es.map fun e => (e.1, e.2.1)))) (hl : es.length ≤ 30000) (he : ∀ e ∈ es, KeyLen e.1 ∧ ShAt K H e.2.1 e.2.2) : SpX (spIsPage K) [.ref d] H (Is (.bl (pageB es))) :=
  sx_of (α := (Addr × List (Key × V × Bool)) ⊕ (V × String)) (args := argsP) (.inl (d, es)) (fun _ e => ⟨e _ _ hd, hl, fun x hx => ⟨(he x hx).1, (he x hx).2.mono e⟩⟩) fun _ _ _ _ _ h => h
theorem sv_isPage {d : Addr} {es : List (Key × V × Bool)} {H : Hp} (hd : H d = some (.dK (es.map fun e => (e.1, e.2.1)))) (hl : es.length ≤ 30000) (he : ∀ e ∈ es, KeyLen e.1 ∧ ShAt K H e.2.1 e.2.2) : SpV (spIsPage K) [.ref d] H (.bl (pageB es)) :=
  sv_of (sx_of (α := (Addr × List (Key × V × Bool)) ⊕ (V × String)) (args := argsP) (.inl (d, es)) (fun _ e => ⟨e _ _ hd, hl, fun x hx => ⟨(he x hx).1, (he x hx).2.mono e⟩⟩) fun _ _ _ _ _ h => h)
theorem sv_noPage {v : V} {t : String} {H : Hp} (h : TyX K H v (.type t)) (ht : kitB t "dict" = some false) : SpV (spIsPage K) [v] H (.bl false) := sv_of (sx_of (α := (Addr × List (Key × V × Bool)) ⊕ (V × String)) (args := argsP) (.inr (v, t)) (fun _ e => ⟨tyx_mono e h, ht⟩) fun _ _ _ _ _ h => h)
theorem ok_is_page (T : Txt K mg) : FnOk P w K mg base CX0 4 T.a_is_page T.d_is_page ["thing"] (spIsPage K) := by
  refine T.h_is_page.F.ok sc_is_page (fun vs H Q E h => ?_) (fun cdv A outer s H vs Q E hr h => ?_)
  · obtain ⟨x, rfl, _⟩ := h
    rcases x with ⟨x, xs⟩ | ⟨x, t⟩ <;> rfl
  · obtain ⟨x, rfl, hp, k⟩ := h
    refine ⟨_, (pss_cons (ps_if (PW.pt (pw_or (pt_not (pt_val (pe_callB call_isi (by rfl) T.n_isinstance (by decide +kernel) (pa_cons (pv 0) (pa_cons (pe_bltn (v := .ty "dict") (u := .type "dict") (by rfl) T.n_dict (by decide +kernel) rfl) pa_nil))))) (pw_or1 (pt_cmpR op_gt (pe_callB call_lenD (by rfl) T.n_len PySem.boot_len (pa_cons (pv 0) pa_nil)) (pe_glob rfl T.g_MOST_NAMES.1 T.g_MOST_NAMES.2) (nomark _))))) (pss_one (ps_ret pe_bl)) pss_nil) (pss_one (ps_ret (pe_callB (cr_all rfl) (by rfl) T.n_all (by decide +kernel) (pa_cons (pe_lock (pe_lc (own := [("name", 1), ("share", 2)]) (by rfl) sc_is_page.nd (pi_items (pv 0)) (blkOk_by (own := [("name", 1), ("share", 2)]) (N := ["thing", "name", "share"]) (sc := defScope s_is_page) (by decide +kernel)) (fun _ _ _ _ _ => (pg_tupK (K := K) (n := 2) rfl rfl (pgs_cons (pg_name (i := 1) sc_is_page.nd rfl (by first | exact Or.inl rfl | exact Or.inr rfl)) (pgs_cons (pg_name (i := 2) sc_is_page.nd rfl (by first | exact Or.inl rfl | exact Or.inr rfl)) pgs_nil)) rfl rfl)) (fun _ _ _ _ _ => pts_nil) (fun _ _ _ _ _ => (pe_call (ok_is_entry T) (hr.mono (by decide)) rfl T.h_is_entry.m T.h_is_entry.F.kp T.h_is_entry.b .nil pass0 (pa_cons (pv 1) (pa_cons (pv 2) pa_nil)))))) pa_nil))))), ?_⟩
    rcases x with ⟨d, es⟩ | ⟨v, t⟩
    · obtain ⟨hd, hl, he⟩ := hp
      refine q_when (b := !true || decide ((200 : Int) < (es.length : Int))) (et_or (et_not (et_B (ev_cb (ea_cons (ev_var rfl) (ea_cons ev_c ea_nil)) (rc_isi (a := "dict") (fun H1 e1 => .base (.dK (e1 _ _ hd))) (by decide +kernel))))) fun _ => et_test (ev_op (ev_is (ev_cb (ea_cons (ev_var rfl) ea_nil) (rc_lenD hd)) (by rw [List.length_map])) ev_c rv_I0)) (fun hb H1 e1 => ?_) (fun hb H1 e1 => ?_)
      · refine s_ret ev_c fun H2 e2 => k _ _ (by walk_at "ex") ?_
        show _ = _
        have h2 : ¬ es.length ≤ 200 := by
          intro z
          simp at hb
          omega
        unfold pageB
        rw [decide_eq_false h2]
        rfl
      · have h2 : es.length ≤ 200 := by
          simp at hb
          omega
        have hd1 := e1 _ _ hd
        refine s_ret (x_all (bs := es.map fun e => keyOk e.1 && e.2.2) ?_) fun H2 e2 => k _ _ (by walk_at "ex") ?_
        · have hlk : ∀ e ∈ es, ∀ od, KeyLen e.1 ∧ ShAt K (upd H1 d (.frz od (.dK (es.map fun e => (e.1, e.2.1))))) e.2.1 e.2.2 := fun e h od => ⟨(he e h).1, ((he e h).2.mono e1).lock hd1⟩
          refine el_lockItems ((es.map fun e => keyOk e.1 && e.2.2).map V.bl) ?hv hd1 ?h ?hn ?hz ?hw ?_
          case hv => simp
          case h => intro H'; exact ev_var rfl
          case hn => rfl
          case hz => rw [List.length_map]; exact hl
          case hw => intro _ _; rfl
          intro m kv u hkv hu od H3 e3
          rw [List.getElem?_map] at hkv
          rw [List.getElem?_map, List.getElem?_map] at hu
          cases hem : es[m]? with
          | none =>
            rw [hem] at hkv
            cases hkv
          | some e =>
            rw [hem] at hkv hu
            obtain rfl := Option.some.inj hkv
            obtain rfl := Option.some.inj hu
            have hm := List.mem_of_getElem? hem
            exact ev_call (ea_cons (ev_var rfl) (ea_cons (ev_var rfl) ea_nil)) (sv_entry (hlk e hm od).1 ((hlk e hm od).2.mono e3))
        · show _ = _
          unfold pageB
          rw [decide_eq_true h2, Bool.true_and, List.all_map]
          rfl
    · refine q_when (b := true) ?_ (fun hb H1 e1 => ?_) (fun hb H1 e1 => by cases hb)
      · exact et_or (a := true) (b := true) (et_not (a := false) (et_B (ev_cb (ea_cons (ev_var rfl) (ea_cons ev_c ea_nil)) (rc_isi (fun H1 e1 => tyx_mono e1 hp.1) hp.2)))) (fun h => by cases h)
      · exact s_ret ev_c fun H2 e2 => k _ _ (by walk_at "ex") rfl
end

--CUT handa
/-! ### a hand: its name and its page -/
def Hfs (n : Nm) (pd : Addr) : List (Str × V) := putF "_page" (.ref pd) (putF "name" (.str (ofL n)) [])
theorem fld_ne : ¬ (("name" : Str) = "_page") := by decide +kernel
theorem hfs_eq (n : Nm) (pd : Addr) : Hfs n pd = [(("name" : Str), V.str (ofL n)), (("_page" : Str), V.ref pd)] := by
  show (if ("name" : Str) = "_page" then [(("name" : Str), V.ref pd)] else (("name" : Str), V.str (ofL n)) :: putF "_page" (V.ref pd) []) = _
  rw [if_neg fld_ne]
  rfl
theorem hfs_page (n : Nm) (pd : Addr) : (Hfs n pd).lookup ("_page" : Str) = some (.ref pd) := by
  unfold Hfs
  rw [lookup_putF, if_pos rfl]
theorem hfs_name (n : Nm) (pd : Addr) : (Hfs n pd).lookup ("name" : Str) = some (.str (ofL n)) := by
  unfold Hfs
  rw [lookup_putF, if_neg fld_ne, lookup_putF, if_pos rfl]
theorem hfs_no (n : Nm) (pd : Addr) {m : Str} (h1 : ¬ m = "_page") (h2 : ¬ m = "name") : (Hfs n pd).lookup m = none := by
  unfold Hfs
  rw [lookup_putF, if_neg h1, lookup_putF, if_neg h2]
  rfl
theorem hfs_put (n : Nm) (pd pd' : Addr) : putF "_page" (.ref pd') (Hfs n pd) = Hfs n pd' := by
  rw [hfs_eq, hfs_eq]
  show (if ("name" : Str) = "_page" then _ else (("name" : Str), V.str (ofL n)) :: (if ("_page" : Str) = "_page" then [(("_page" : Str), V.ref pd')] else _)) = [(("name" : Str), V.str (ofL n)), (("_page" : Str), V.ref pd')]
  rw [if_neg fld_ne, if_pos rfl]
theorem hfs_len (n : Nm) (pd : Addr) : (Hfs n pd).length < 1000 := by rw [hfs_eq]; exact (show 2 < 1000 by decide)
/-- a hand stands at x -/
def HandAt (K : PySem.W.Frag) (C : Addr) (H : Hp) (x : Addr) (n : Nm) (p : Pg) : Prop := ∃ dx pd, H x = some (.ins C dx (Hfs n pd)) ∧ PgAt K H pd p ∧ PgPos p ∧ RisingN (p.map (·.1)) ∧ NmOk n
/-- all but x stands as before -/
def ExX (x : Addr) (H H' : Hp) : Prop := ∀ a o, H a = some o → a ≠ x → H' a = some o
section
variable {K : PySem.W.Frag} {C x y : Addr} {H H' H2 : Hp} {n : Nm} {p : Pg} {dx : Addr} {fs : List (Str × V)}
theorem HandAt.mono (e : Ex H H') (h : HandAt K C H x n p) : HandAt K C H' x n p := let ⟨dx, pd, a, b, c⟩ := h; ⟨dx, pd, e _ _ a, b.mono e, c⟩
theorem HandAt.ins (h : HandAt K C H x n p) : ∃ dx fs, H x = some (.ins C dx fs) := let ⟨dx, pd, a, _⟩ := h; ⟨dx, _, a⟩
theorem ExX.of (e : Ex H H') : ExX x H H' := fun a o h _ => e a o h
theorem ExX.trans (a : ExX x H H') (b : ExX x H' H2) : ExX x H H2 := fun c o h hc => b c o (a c o h hc) hc
theorem ExX.upd {o : HO} : ExX x H (upd H x o) := fun a u h hc => by rw [upd_ne hc]; exact h
theorem ExX.fresh (e : ExX x H H') (hx : H x = none) : Ex H H' := fun a o h => e a o h fun z => by rw [z, hx] at h; cases h
theorem ExX.at {a : Addr} {o : HO} (e : ExX x H H') (hx : H x = some (.ins C dx fs)) (h : H a = some o) (ho : ∀ c d f, o ≠ .ins c d f) : H' a = some o := e a o h fun z => by
  rw [z, hx] at h
  exact ho _ _ _ (Option.some.inj h).symm
theorem ExX.t {q : Addr} {xs : List V} (e : ExX x H H') (hx : H x = some (.ins C dx fs)) (h : SqT K H q xs) : SqT K H' q xs := by
  rcases h with (h | ⟨o, h⟩) | h
  · exact .inl (.inl (e.at hx h (by intro _ _ _ z; cases z)))
  · exact .inl (.inr ⟨o, e.at hx h (by intro _ _ _ z; cases z)⟩)
  · exact .inr h
theorem ExX.l {q : Addr} {xs : List V} (e : ExX x H H') (hx : H x = some (.ins C dx fs)) (h : SqL K H q xs) : SqL K H' q xs := by
  rcases h with (h | ⟨o, h⟩) | h
  · exact .inl (.inl (e.at hx h (by intro _ _ _ z; cases z)))
  · exact .inl (.inr ⟨o, e.at hx h (by intro _ _ _ z; cases z)⟩)
  · exact .inr h
theorem ExX.pg {d : Addr} {q : Pg} (e : ExX x H H') (hx : H x = some (.ins C dx fs)) (h : PgAt K H d q) : PgAt K H' d q :=
  let ⟨ks, h1, h2, h3⟩ := h; ⟨ks, e.at hx h1 (by intro _ _ _ z; cases z), h2.to fun _ _ => e.t hx, h3⟩
theorem ExX.rd {d : Addr} {q : Pg} (e : ExX x H H') (hx : H x = some (.ins C dx fs)) (h : PgRd K H d q) : PgRd K H' d q := by
  obtain ⟨ks, h1, h2, h3⟩ := h
  refine ⟨ks, ?_, h2.to fun _ _ => e.t hx, h3⟩
  rcases h1 with h1 | ⟨o, h1⟩
  · exact .inl (e.at hx h1 (by intro _ _ _ z; cases z))
  · exact .inr ⟨o, e.at hx h1 (by intro _ _ _ z; cases z)⟩
theorem ExX.hand {m : Nm} {q : Pg} (e : ExX x H H') (hx : H x = some (.ins C dx fs)) (hne : y ≠ x) (h : HandAt K C H y m q) : HandAt K C H' y m q :=
  let ⟨d2, pd, a, b, c⟩ := h; ⟨d2, pd, e _ _ a hne, e.pg hx b, c⟩
/-- the reading of o.f, of o.m(..), of o.f = e -/
theorem ev_fld {σ : L2.St} {ta : TE} {f : Str} {v : V} (h : Ev ta σ H (.ref x)) (hx : H x = some (.ins C dx fs)) (c : Cls K C) (na : NoAttr K C f) (l : fs.lookup f = some v) : Ev (tFld K ta f) σ H v := fun H1 e Q q =>
  h H1 e _ fun H2 e2 => ⟨x, C, dx, fs, v, rfl, (e.trans e2) _ _ hx, c, na, l, q H2 e2⟩
theorem x_meth0 {σ : L2.St} {ta : TE} {m : Str} {sp : Sp} {E : XK} {P : VP} (h : Ev ta σ H (.ref x)) (hx : H x = some (.ins C dx fs)) (hm : fs.lookup m = none) (hs : SpX sp [.ref x] H P) : EvX (tMeth C m sp [] E ta tNil) σ H P := fun H1 e Q q =>
  h H1 e _ fun H2 e2 => ⟨x, dx, fs, rfl, (e.trans e2) _ _ hx, hm, hs H2 (e.trans e2) Q E fun v H3 e3 p => q v H3 (e2.trans e3) p⟩
theorem x_meth1 {σ : L2.St} {ta tb : TE} {m : Str} {sp : Sp} {E : XK} {P P1 : VP} (h : Ev ta σ H (.ref x)) (h1 : EvX tb σ H P1) (hx : H x = some (.ins C dx fs)) (hm : fs.lookup m = none) (hs : ∀ v H1, Ex H H1 → P1 v H1 → SpX sp [.ref x, v] H1 P) : EvX (tMeth C m sp [] E ta (tCons tb tNil)) σ H P := fun H1 e Q q =>
  h H1 e _ fun H2 e2 => ⟨x, dx, fs, rfl, (e.trans e2) _ _ hx, hm, h1 H2 (e.trans e2) _ fun v H3 e3 p1 => hs v H3 ((e.trans e2).trans e3) p1 H3 (Ex.refl H3) Q E fun w H4 e4 p => q w H4 ((e2.trans e3).trans e4) p⟩
theorem s_fld {σ : L2.St} {to tv : TE} {f : Str} {P : VP} [Mono P] {D : Ends} (hv : EvX tv σ H P) (ho : Ev to σ H (.ref x)) (hx : H x = some (.ins C dx fs)) (c : Cls K C) (na : NoAttr K C f) (hl : fs.length < 1000) (k : ∀ v H1, Ex H H1 → P v H1 → D.nx σ (upd H1 x (.ins C dx (putF f v fs)))) : sFld K to tv f D σ H :=
  hv H (Ex.refl H) _ fun v H1 e1 hp => ho H1 e1 _ fun H2 e2 => ⟨x, C, dx, fs, rfl, (e1.trans e2) _ _ hx, c, na, hl, k v H2 (e1.trans e2) (Mono.mono e2 hp)⟩
theorem q_fld {σ : L2.St} {to tv : TE} {f : Str} {P : VP} [Mono P] {D : Ends} {tz : TS} (hv : EvX tv σ H P) (ho : Ev to σ H (.ref x)) (hx : H x = some (.ins C dx fs)) (c : Cls K C) (na : NoAttr K C f) (hl : fs.length < 1000) (k : ∀ v H1, Ex H H1 → P v H1 → tz D σ (upd H1 x (.ins C dx (putF f v fs)))) : tSeq (sFld K to tv f) tz D σ H :=
  s_fld (D := { D with nx := tz D }) hv ho hx c na hl k
/-- a call that changes the hand at x: what it tells, and how all stands behind it -/
def EvR (te : TE) (σ : L2.St) (H : Hp) (R : V → Hp → Prop) : Prop := ∀ Q : VK, (∀ v H2, R v H2 → Q v H2) → te σ H Q
def spRx {α : Type} (x : α → Addr) (args : α → List V) (Pre : α → Hp → Prop) (R : α → Hp → V → Hp → Prop) : Sp := fun vs H Q _ => ∃ a : α, vs = args a ∧ Pre a H ∧ ∀ v H', ExX (x a) H H' → R a H v H' → Q v H'
def CpV (K : PySem.W.Frag) (H : Hp) (p : Pg) : VP := fun v H2 => ∃ d, v = .ref d ∧ H d = none ∧ PgAt K H2 d p
instance : Mono (CpV K H p) := ⟨fun e ⟨d, a, b, c⟩ => ⟨d, a, b, c.mono e⟩⟩
theorem CpV.back (e : Ex H H') {v : V} {H2 : Hp} (h : CpV K H' p v H2) : CpV K H p v H2 := let ⟨d, a, b, c⟩ := h; ⟨d, a, fresh_back e b, c⟩
theorem x_copyPg {σ : L2.St} {ta : TE} {d : Addr} (h : Ev ta σ H (.ref d)) (hd : PgAt K H d p) : EvX (tCB rDictCopy (tCons ta tNil)) σ H (CpV K H p) := by
  obtain ⟨ks, h1, h2⟩ := hd
  exact (x_dcopy h h1).imp fun v H1 e ⟨a, ea, hn, ha⟩ => ⟨a, ea, hn, ks, ha, h2.1.mono e, h2.2⟩
end
/-- a deed of the hand itself -/
def addG (p : Pg) (n : Nm) (a b : Int) (m : Nm) : Option (Int × Int) := if m = n then some (((getP p n).getD (0, 0)).1 + a, ((getP p n).getD (0, 0)).2 + b) else getP p m
theorem mx_add {u a : Int} (h : 0 ≤ a) : mx (u + a) u = u + a := by unfold mx; rw [if_neg (by omega)]
theorem addG_of {p : Pg} {n : Nm} {a b : Int} (ha : 0 ≤ a) (hb : 0 ≤ b) (m : Nm) : joinG p [(n, ((getP p n).getD (0, 0)).1 + a, ((getP p n).getD (0, 0)).2 + b)] m = addG p n a b m := by
  unfold joinG addG
  rw [getP_cons]
  by_cases h : m = n
  · rw [if_pos h.symm, if_pos h, h]
    show some (gr _ _) = _
    unfold gr
    rw [mx_add ha, mx_add hb]
  · rw [if_neg (fun z => h z.symm), if_neg h]
    rfl
theorem joinG_pos {p q r : Pg} (hp : PgPos p) (hq : PgPos q) (hr : (r.map (·.1)).Nodup) (h : ∀ m, getP r m = joinG p q m) : PgPos r := by
  intro e he
  have h1 := getP_mem hr e he
  rw [h] at h1
  unfold joinG at h1
  cases c : getP q e.1 with
  | none =>
    rw [c] at h1
    exact hp _ (getP_is h1)
  | some s =>
    rw [c] at h1
    have h2 := hq _ (getP_is c)
    rw [← show gr s ((getP p e.1).getD (0, 0)) = e.2 from Option.some.inj h1]
    have h3 : 0 ≤ ((getP p e.1).getD (0, 0)).1 ∧ 0 ≤ ((getP p e.1).getD (0, 0)).2 := by
      cases d : getP p e.1 with
      | none => exact ⟨Int.le_refl 0, Int.le_refl 0⟩
      | some t =>
        have h4 := hp _ (getP_is d)
        exact ⟨h4.1, h4.2.1⟩
    unfold ShPos at h2 ⊢
    unfold gr mx
    simp only at h2 ⊢
    split <;> split <;> omega
def amtOk : Int ⊕ (V × String) → Bool
  | .inl n => decide (1 ≤ n) && decide (n ≤ 1000000000)
  | .inr _ => false
theorem x_dispT {K : PySem.W.Frag} {σ : L2.St} {H : Hp} {tk tv : TE} {s : Str} {xs : List V} (hk : Ev tk σ H (.str s)) (hv : EvX tv σ H (Tp K xs)) : EvX (tDisp [(tk, tv)]) σ H (fun v H2 => ∃ d r, v = .ref d ∧ H d = none ∧ H2 d = some (.dK [(.inr s, .ref r)]) ∧ SqT K H2 r xs) := fun H1 e Q q => fun p hp =>
  hk _ (e.trans (Ex.new hp)) _ fun H2 e2 => hv H2 ((e.trans (Ex.new hp)).trans e2) _ fun r H3 e3 ⟨a, ha, hr⟩ => ⟨e3 _ _ (e2 _ _ upd_same), [(.inr s, r)], rfl, Nat.le_of_ble_eq_true rfl, by
    subst ha
    exact q _ _ (Ex.mut (((Ex.new hp).trans e2).trans e3) hp) ⟨p, a, rfl, fresh_back e hp, upd_same, upd_t (e3 _ _ (e2 _ _ upd_same)) hr⟩⟩

/-! ### made, raised, lowered, told -/
section
variable {P : Program} {w : World} {K : PySem.W.Frag} {mg : Str → Option Value} {base : Heap}
theorem nm_of {z : Str} (h : nameOk z = true) : NmOk z.cps.toList := by
  unfold nameOk at h
  rw [Bool.and_eq_true, Bool.and_eq_true] at h
  have h1 := of_decide_eq_true h.1.1
  have h2 := of_decide_eq_true h.1.2
  have e : z.length = z.cps.toList.length := by show z.cps.size = _; simp
  refine ⟨by omega, by omega, fun x hx => ?_⟩
  have := List.all_eq_true.mp h.2 x hx
  unfold lowC at this
  rw [Bool.and_eq_true] at this
  have := of_decide_eq_true this.2
  omega
def nmB : Str ⊕ (V × String) → Bool
  | .inl z => nameOk z
  | .inr _ => false
theorem sv_nm {t : Str ⊕ (V × String)} {H : Hp} (h : preN K t H) : SpV (spName K) (argsN t) H (.bl (nmB t)) := by
  rcases t with z | ⟨v, t⟩
  · exact sv_name h
  · exact sv_noName h.1 h.2
theorem args1N (t : Str ⊕ (V × String)) : ∃ v, argsN t = [v] := by rcases t with z | ⟨v, t⟩ <;> exact ⟨_, rfl⟩
theorem args1I (t : Int ⊕ (V × String)) : ∃ v, argsI t = [v] := by rcases t with z | ⟨v, t⟩ <;> exact ⟨_, rfl⟩
theorem preN_mono {t : Str ⊕ (V × String)} {H H' : Hp} (e : Ex H H') (h : preN K t H) : preN K t H' := by
  rcases t with z | ⟨v, t⟩
  · exact h
  · exact ⟨tyx_mono e h.1, h.2⟩
theorem preI_mono {t : Int ⊕ (V × String)} {H H' : Hp} (e : Ex H H') (h : preI K t H) : preI K t H' := by
  rcases t with z | ⟨v, t⟩
  · trivial
  · exact ⟨tyx_mono e h.1, h.2⟩
theorem sv_amt {t : Int ⊕ (V × String)} {H : Hp} (h : preI K t H) : SpV (spAmount K) (argsI t) H (.bl (amtOk t)) := by
  rcases t with z | ⟨v, t⟩
  · exact sv_amount
  · exact sv_noAmount h.1 h.2
/-- what comes of a page that is taken in -/
def HandOff (C : Addr) (H : Hp) (x : Addr) (n : Nm) (b : Addr) : Prop := ∀ dx pd, H x = some (.ins C dx (Hfs n pd)) → pd ≠ b
theorem hfs_inj {n : Nm} {a b : Addr} (h : Hfs n a = Hfs n b) : a = b := by
  have h1 := hfs_page n a
  rw [h, hfs_page] at h1
  injection h1 with h1
  injection h1 with h1
  exact h1.symm
abbrev spHInit (K : PySem.W.Frag) (C N : Addr) : Sp := fun vs H Q E => ∃ (x dx : Addr) (t : Str ⊕ (V × String)), vs = .ref x :: argsN t ∧ H x = some (.ins C dx []) ∧ preN K t H ∧
  (∀ z, t = .inl z → nameOk z = true → ∀ H', ExX x H H' → HandAt K C H' x z.cps.toList [] → (∀ b o, H b = some o → HandOff C H' x z.cps.toList b) → Q .non H') ∧ (nmB t = false → ∀ H', Ex H H' → E (.ref N) none H')
theorem ok_Hand_init (T : Txt K mg) : FnOk P w K mg base (L2.CX P w) 2 T.a_Hand_init T.d_Hand_init ["self", "name"] (spHInit K T.c_Hand T.c_NoName) := by
  refine T.h_Hand_init.F.okX sc_Hand_init (fun vs H Q E h => ?_) (fun cdv A outer s H vs Q E hr h => ?_)
  · obtain ⟨x, dx, t, rfl, _⟩ := h
    rcases t with t | ⟨v, t⟩ <;> rfl
  · obtain ⟨x, dx, t, rfl, hx, hp, k1, k2⟩ := h
    obtain ⟨v, hv⟩ := args1N t
    have sv := sv_nm hp
    rw [hv] at sv ⊢
    refine ⟨_, (pss_cons (ps_if (pt_not (pt_val (pe_call (ok_is_name T) (hr.mono (by decide)) rfl T.h_is_name.m T.h_is_name.F.kp T.h_is_name.b .nil pass0 (pa_cons (pv 1) pa_nil)))) (pss_one (ps_raise rfl (takes_of rfl rfl rfl rfl) (pmk_own PySem.F.excBase_ValueError T.x_NoName.q T.x_NoName.g T.x_NoName.kp (raises_own T.x_NoName.b T.x_NoName.t) rfl))) pss_nil) (pss_cons (ps_fld (pv 0) (pv 1) rfl) (pss_one (ps_fld (pv 0) pe_dnewK rfl)))), ?_⟩
    refine q_when (b := !nmB t) (et_not (et_B (ev_call (ea_cons (ev_var rfl) ea_nil) sv))) (fun hb H1 e1 => ?_) (fun hb H1 e1 => ?_)
    · exact k2 (by rw [Bool.not_eq_true'] at hb; exact hb) H1 e1
    · rcases t with z | ⟨v, t⟩
      · have hz : nameOk z = true := by rw [Bool.not_eq_false'] at hb; exact hb
        obtain rfl : V.str z = v := (List.cons.inj hv).1
        refine q_fld (K := K) (P := Is (.str z)) (x_ev (ev_var rfl)) (ev_var rfl) (e1 _ _ hx) T.cl_Hand T.na_Hand_name (by decide) fun v H2 e2 hv2 => ?_
        obtain rfl : v = V.str z := hv2
        refine s_fld (K := K) (P := Nw (upd H2 x (.ins T.c_Hand dx (putF "name" (V.str z) []))) (.dK [])) x_dnew (ev_var rfl) upd_same T.cl_Hand T.na_Hand_page (show 1 < 1000 by decide) fun v H3 e3 hv3 => ?_
        obtain ⟨d, rfl, hd0, hd3⟩ := hv3
        have hxd : d ≠ x := fun q => by rw [q, upd_same] at hd0; cases hd0
        refine k1 z rfl hz _ (((ExX.of (e1.trans e2)).trans ExX.upd).trans ((ExX.of e3).trans ExX.upd)) ⟨dx, d, ?_, PgAt.nil (by rw [upd_ne hxd]; exact hd3), (fun e he => by cases he), List.Pairwise.nil, nm_of hz⟩ (fun b o hb dx' pd' hx' => ?_)
        · rw [upd_same]
          unfold Hfs
          rw [ofL_eta]
        · rw [upd_same] at hx'
          injection hx' with hx'
          injection hx' with _ _ hx'
          have hx2 : Hfs z.cps.toList d = Hfs z.cps.toList pd' := by
            rw [← hx']
            unfold Hfs
            rw [ofL_eta]
          obtain rfl := hfs_inj hx2
          intro w
          subst w
          rw [upd_ne hxd, e2 _ _ (e1 _ _ hb)] at hd0
          cases hd0
      · cases hb
theorem x_makeHand {T : Txt K mg} {σ : L2.St} {H : Hp} {ta : TE} {E : XK} {n : Nm} (h1 : Ev ta σ H (.str (ofL n))) (hn : nameOk (ofL n) = true) :
    EvX (tMake T.c_Hand (spHInit K T.c_Hand T.c_NoName) [] E (tCons ta tNil)) σ H (fun v H2 => ∃ x, v = .ref x ∧ H x = none ∧ HandAt K T.c_Hand H2 x n [] ∧ ∀ b o, H b = some o → HandOff T.c_Hand H2 x n b) := fun H1 e Q q =>
  h1 H1 e _ fun H2 e2 => fun x dx hx hdx hne => by
    have hlen : (ofL n).cps.toList.length ≤ 30000 := by have := (nm_of hn).2.1; omega
    have eU : Ex H2 (upd (upd H2 dx (.own x)) x (.ins T.c_Hand dx [])) := (Ex.new hdx).trans (Ex.new (by rw [upd_ne (Ne.symm hne)]; exact hx))
    refine ⟨x, dx, .inl (ofL n), rfl, upd_same, hlen, fun z hz hok H' eX hh hof => ⟨rfl, ?_⟩, fun hf => absurd (show nameOk (ofL n) = false from hf) (by rw [hn]; decide)⟩
    obtain rfl := Sum.inl.inj hz
    refine q _ H' (fun a o ha => ?_) ⟨x, rfl, fresh_back e (fresh_back e2 hx), hh, fun b o hb => hof b _ (eU _ _ (e2 _ _ (e _ _ hb)))⟩
    have ha2 := e2 a o ha
    exact eX a o (eU a o ha2) fun z => by rw [z, hx] at ha2; cases ha2
abbrev spCkAmount (K : PySem.W.Frag) (N : Addr) : Sp := fun vs H Q E => ∃ t : Int ⊕ (V × String), vs = argsI t ∧ preI K t H ∧ (amtOk t = true → Ret (Is .non) H Q) ∧ (amtOk t = false → ∀ H', Ex H H' → E (.ref N) none H')
theorem ok_check_amount (T : Txt K mg) : FnOk P w K mg base (L2.CX P w) 3 T.a_check_amount T.d_check_amount ["thing"] (spCkAmount K T.c_NoAmount) := by
  refine T.h_check_amount.F.okX sc_check_amount (fun vs H Q E h => ?_) (fun cdv A outer s H vs Q E hr h => ?_)
  · obtain ⟨t, rfl, _⟩ := h
    rcases t with t | ⟨v, t⟩ <;> rfl
  · obtain ⟨t, rfl, hp, k1, k2⟩ := h
    obtain ⟨v, hv⟩ := args1I t
    have sv := sv_amt hp
    rw [hv] at sv ⊢
    refine ⟨_, (pss_one (ps_if (pt_not (pt_val (pe_call (ok_is_amount T) (hr.mono (by decide)) rfl T.h_is_amount.m T.h_is_amount.F.kp T.h_is_amount.b .nil pass0 (pa_cons (pv 0) pa_nil)))) (pss_one (ps_raise rfl (takes_of rfl rfl rfl rfl) (pmk_own PySem.F.excBase_ValueError T.x_NoAmount.q T.x_NoAmount.g T.x_NoAmount.kp (raises_own T.x_NoAmount.b T.x_NoAmount.t) rfl))) pss_nil)), ?_⟩
    refine s_when (b := !amtOk t) (et_not (et_B (ev_call (ea_cons (ev_var rfl) ea_nil) sv))) (fun hb H1 e1 => ?_) (fun hb H1 e1 => ?_)
    · exact k2 (by rw [Bool.not_eq_true'] at hb; exact hb) H1 e1
    · exact k1 (by rw [Bool.not_eq_false'] at hb; exact hb) _ H1 e1 rfl
abbrev spHPage (K : PySem.W.Frag) (C : Addr) : Sp := SpF (fun x : Addr × Nm × Pg => [.ref x.1]) (fun x H => HandAt K C H x.1 x.2.1 x.2.2) (fun x H => CpV K H x.2.2)
theorem x_handPage {T : Txt K mg} {σ : L2.St} {H : Hp} {ta : TE} {E : XK} {x : Addr} {n : Nm} {p : Pg} (h : Ev ta σ H (.ref x)) (hh : HandAt K T.c_Hand H x n p) : EvX (tMeth T.c_Hand "page" (spHPage K T.c_Hand) [] E ta tNil) σ H (CpV K H p) := by
  obtain ⟨dx, pd, hx, _⟩ := id hh
  exact x_meth0 h hx (hfs_no n pd (by decide +kernel) (by decide +kernel)) (sx_of (x, n, p) (fun H1 e => hh.mono e) fun H1 v H2 e _ hv => hv.back e)
theorem ok_Hand_page (T : Txt K mg) : FnOk P w K mg base CX0 1 T.a_Hand_page T.d_Hand_page ["self"] (spHPage K T.c_Hand) := by
  refine T.h_Hand_page.F.ok sc_Hand_page (fun vs H Q E h => ?_) (fun cdv A outer s H vs Q E hr h => ?_)
  · obtain ⟨c, rfl, _⟩ := h
    rfl
  · obtain ⟨⟨x, n, p⟩, rfl, ⟨dx, pd, hx, hpd, _⟩, k⟩ := h
    simp only at hx hpd k
    refine ⟨_, (pss_one (ps_ret (pe_callTy call_dictD (by rfl) T.n_dict (by decide +kernel) (pa_cons (pe_fld (pv 0) rfl) pa_nil)))), ?_⟩
    exact sx_ret (x_copyPg (K := K) (ev_fld (ev_var rfl) hx T.cl_Hand T.na_Hand_page (hfs_page n pd)) hpd) fun v H1 e1 hv => k _ _ e1 hv
abbrev spTold (K : PySem.W.Frag) (C : Addr) : Sp := SpF (fun x : Addr × Nm × Pg => [.ref x.1]) (fun x H => HandAt K C H x.1 x.2.1 x.2.2) (fun x _ => Is (.int (totP x.2.2)))
theorem x_told {T : Txt K mg} {σ : L2.St} {H : Hp} {ta : TE} {E : XK} {x : Addr} {n : Nm} {p : Pg} (h : Ev ta σ H (.ref x)) (hh : HandAt K T.c_Hand H x n p) : Ev (tMeth T.c_Hand "told" (spTold K T.c_Hand) [] E ta tNil) σ H (.int (totP p)) := by
  obtain ⟨dx, pd, hx, _⟩ := id hh
  exact ev_x (x_meth0 h hx (hfs_no n pd (by decide +kernel) (by decide +kernel)) (sx_of (x, n, p) (fun H1 e => hh.mono e) fun _ _ _ _ _ hv => hv))
theorem ok_Hand_told (T : Txt K mg) : FnOk P w K mg base CX0 3 T.a_Hand_told T.d_Hand_told ["self"] (spTold K T.c_Hand) := by
  refine T.h_Hand_told.F.ok sc_Hand_told (fun vs H Q E h => ?_) (fun cdv A outer s H vs Q E hr h => ?_)
  · obtain ⟨c, rfl, _⟩ := h
    rfl
  · obtain ⟨⟨x, n, p⟩, rfl, ⟨dx, pd, hx, hpd, _⟩, k⟩ := h
    simp only at hx hpd k
    refine ⟨_, (pss_one (ps_ret (pe_call (ok_total T) (hr.mono (by decide)) rfl T.h_total.m T.h_total.F.kp T.h_total.b .nil pass0 (pa_cons (pe_fld (pv 0) rfl) pa_nil)))), ?_⟩
    exact s_ret (x_total (K := K) (x_ev (ev_fld (ev_var rfl) hx T.cl_Hand T.na_Hand_page (hfs_page n pd))) fun v H1 e1 hv => ⟨pd, hv, hpd.mono e1⟩) fun H1 e1 => k _ _ e1 rfl
abbrev spAdd (K : PySem.W.Frag) (C : Addr) : Sp := fun vs H Q _ => ∃ (x : Addr) (n : Nm) (p : Pg) (a b : Int), vs = [.ref x, .int a, .int b] ∧ HandAt K C H x n p ∧ 0 ≤ a ∧ 0 ≤ b ∧ 0 < a + b ∧ p.length ≤ 800 ∧
  ∀ H' q, ExX x H H' → HandAt K C H' x n q → (∀ b o, H b = some o → HandOff C H' x n b) → (∀ m, getP q m = addG p n a b m) → q.length ≤ p.length + 1 → Q (.int (totP q)) H'
theorem ok_Hand_add (T : Txt K mg) : FnOk P w K mg base CX0 4 T.a_Hand_add T.d_Hand_add ["self", "raised", "lowered"] (spAdd K T.c_Hand) := by
  refine T.h_Hand_add.F.ok sc_Hand_add (fun vs H Q E h => ?_) (fun cdv A outer s H vs Q E hr h => ?_)
  · obtain ⟨x, n, p, a, b, rfl, _⟩ := h
    rfl
  · obtain ⟨x, n, p, a, b, rfl, ⟨dx, pd, hx, hpd, hpos, hris, hnm⟩, ha, hb, hab, hl, k⟩ := h
    refine ⟨_, (pss_cons (ps_set (i := 3) sc_Hand_add.nd rfl (by first | exact Or.inl rfl | exact Or.inr rfl) (pe_call (ok_share_of T) (hr.mono (by decide)) rfl T.h_share_of.m T.h_share_of.F.kp T.h_share_of.b .nil pass0 (pa_cons (pe_fld (pv 0) rfl) (pa_cons (pe_fld (pv 0) rfl) pa_nil)))) (pss_cons (ps_fld (pv 0) (pe_call (ok_joined T) (hr.mono (by decide)) rfl T.h_joined.m T.h_joined.F.kp T.h_joined.b .nil pass0 (pa_cons (pe_fld (pv 0) rfl) (pa_cons (pe_disp (pps_cons (pe_fld (pv 0) rfl) (pe_tup (pa_cons (pe_op op_add (pe_ix ix_tup (pv 3) pe_int (fun _ _ => rfl)) (pv 1)) (pa_cons (pe_op op_add (pe_ix ix_tup (pv 3) pe_int (fun _ _ => rfl)) (pv 2)) pa_nil))) pps_nil) (by rfl) (by rfl) (fun z => by cases z) (by decide)) pa_nil))) rfl) (pss_one (ps_ret (pe_meth0 (pv 0) T.cl_Hand T.h_Hand_told.m (ok_Hand_told T) (hr.mono (by decide)) T.h_Hand_told.b .nil pass0))))), ?_⟩
    have fp : ∀ {σ : L2.St} {H1 : Hp}, Ex H H1 → σ[0]? = some (some (.ref x)) → Ev (tFld K (tVar 0) "_page") σ H1 (.ref pd) := fun e h => ev_fld (ev_var h) (e _ _ hx) T.cl_Hand T.na_Hand_page (hfs_page n pd)
    have fn : ∀ {σ : L2.St} {H1 : Hp}, Ex H H1 → σ[0]? = some (some (.ref x)) → Ev (tFld K (tVar 0) "name") σ H1 (.str (ofL n)) := fun e h => ev_fld (ev_var h) (e _ _ hx) T.cl_Hand T.na_Hand_name (hfs_name n pd)
    refine qx_asg (x_shareOf (K := K) (fp (Ex.refl _) rfl) (fn (Ex.refl _) rfl) hpd.rd) fun v H1 e1 hv => ?_
    obtain ⟨q, rfl, hq⟩ := hv
    generalize hs : (getP p n).getD (0, 0) = s at hq
    have hs0 : 0 ≤ s.1 ∧ 0 ≤ s.2 := by
      cases c : getP p n with
      | none => rw [c] at hs; subst hs; exact ⟨Int.le_refl 0, Int.le_refl 0⟩
      | some t =>
        rw [c] at hs
        obtain rfl : t = s := hs
        have := hpos _ (getP_is c)
        exact ⟨this.1, this.2.1⟩
    have hdisp : ∀ {H2 : Hp}, Ex H1 H2 → EvX (tDisp [(tFld K (tVar 0) "name", tTup (tCons (tOp (rI0 fun i j => .int (i + j)) (tOp (rIxT K) (tVar 3) (tC (.int 0))) (tVar 1)) (tCons (tOp (rI0 fun i j => .int (i + j)) (tOp (rIxT K) (tVar 3) (tC (.int 1))) (tVar 2)) tNil)))]) [some (.ref x), some (.int a), some (.int b), some (.ref q)] H2 (CpV K H2 [(n, s.1 + a, s.2 + b)]) := by
      intro H2 e2
      have hq2 := ex_t e2 hq
      refine (x_dispT (K := K) (fn (e1.trans e2) rfl) (x_tupT (K := K) (vs := [.int (s.1 + a), .int (s.2 + b)]) (ea_cons (ev_op (ev_op (ev_var rfl) ev_c (rv_ixT hq2 rfl)) (ev_var rfl) rv_I0) (ea_cons (ev_op (ev_op (ev_var rfl) ev_c (rv_ixT hq2 rfl)) (ev_var rfl) rv_I0) ea_nil)))).imp ?_
      rintro v H3 e3 ⟨d, r1, rfl, hd0, hd, hr⟩
      exact ⟨d, rfl, hd0, [(.inr (ofL n), .ref r1)], hd, .cons ⟨rfl, r1, rfl, hr⟩ .nil, by simp, (fun e he => by rw [List.mem_singleton.mp he]; exact hnm), by simp⟩
    refine q_fld (K := K) (P := JoV K H1 p [(n, s.1 + a, s.2 + b)]) ?_ (ev_var rfl) (e1 _ _ hx) T.cl_Hand T.na_Hand_page (hfs_len n pd) fun v H2 e2 hv => ?_
    · refine x_call2 (x_ev (fp e1 rfl)) (hdisp (Ex.refl _)) ?_
      rintro _ _ H2 e2 rfl ⟨d, rfl, hd0, hd⟩
      exact sx_of ((pd, d), p, [(n, s.1 + a, s.2 + b)]) (fun H3 e3 => ⟨(hpd.mono ((e1.trans e2).trans e3)).rd, (hd.mono e3).rd, hpos, by show p.length + 1 ≤ 900; omega⟩) fun _ _ _ e4 _ ⟨d, r, h1, h2, h3⟩ => ⟨d, r, h1, fresh_back (e2.trans e4) h2, h3⟩
    · obtain ⟨d, r, rfl, hd0, hr, hg, hrr, hlr⟩ := hv
      have hx2 : H2 x = some (.ins T.c_Hand dx (Hfs n pd)) := (e1.trans e2) _ _ hx
      have eX : ExX x H (upd H2 x (.ins T.c_Hand dx (putF "_page" (.ref d) (Hfs n pd)))) := (ExX.of (e1.trans e2)).trans ExX.upd
      have hrU : PgAt K (upd H2 x (.ins T.c_Hand dx (putF "_page" (.ref d) (Hfs n pd)))) d r := (ExX.upd : ExX x H2 _).pg hx2 hr
      have hxU : upd H2 x (.ins T.c_Hand dx (putF "_page" (.ref d) (Hfs n pd))) x = some (.ins T.c_Hand dx (Hfs n d)) := by rw [upd_same, hfs_put]
      generalize upd H2 x (.ins T.c_Hand dx (putF "_page" (.ref d) (Hfs n pd))) = H3 at eX hrU hxU
      have hrn : (r.map (·.1)).Nodup := let ⟨_, _, _, z, _⟩ := hr; z
      have hpr : PgPos r := joinG_pos hpos (fun e he => by
        rw [List.mem_singleton.mp he]
        refine ⟨by show 0 ≤ s.1 + a; omega, by show 0 ≤ s.2 + b; omega, ?_⟩
        intro z
        have z1 : s.1 + a = 0 := z.1
        have z2 : s.2 + b = 0 := z.2
        omega) hrn hg
      have hh : HandAt K T.c_Hand H3 x n r := ⟨dx, d, hxU, hrU, hpr, hrr, hnm⟩
      refine s_ret (x_told (T := T) (ev_var rfl) hh) fun H4 e4 => ?_
      refine k H4 r (eX.trans (ExX.of e4)) (hh.mono e4) (fun b o hb dx' pd' hx' => ?_) (fun m => ?_) hlr
      · rw [e4 _ _ hxU] at hx'
        injection hx' with hx'
        injection hx' with _ _ hx'
        obtain rfl := hfs_inj hx'
        intro z
        rw [z, e1 _ _ hb] at hd0
        cases hd0
      · rw [hg, ← addG_of ha hb, hs]
abbrev spUp (K : PySem.W.Frag) (C N : Addr) (f : Int → Int × Int) : Sp := fun vs H Q E => ∃ (x : Addr) (n : Nm) (p : Pg) (t : Int ⊕ (V × String)), vs = .ref x :: argsI t ∧ HandAt K C H x n p ∧ preI K t H ∧ p.length ≤ 800 ∧
  (∀ m, t = .inl m → amtOk t = true → ∀ H' q, ExX x H H' → HandAt K C H' x n q → (∀ b o, H b = some o → HandOff C H' x n b) → (∀ j, getP q j = addG p n (f m).1 (f m).2 j) → q.length ≤ p.length + 1 → Q (.int (totP q)) H') ∧ (amtOk t = false → ∀ H', Ex H H' → E (.ref N) none H')
theorem ok_Hand_up (T : Txt K mg) : FnOk P w K mg base (L2.CX P w) 5 T.a_Hand_up T.d_Hand_up ["self", "many"] (spUp K T.c_Hand T.c_NoAmount fun m => (m, 0)) := by
  refine T.h_Hand_up.F.okX sc_Hand_up (fun vs H Q E h => ?_) (fun cdv A outer s H vs Q E hr h => ?_)
  · obtain ⟨x, n, p, t, rfl, _⟩ := h
    rcases t with t | ⟨v, t⟩ <;> rfl
  · obtain ⟨x, n, p, t, rfl, hh, hp, hl, k1, k2⟩ := h
    obtain ⟨v, hv⟩ := args1I t
    rw [hv]
    refine ⟨_, (pss_cons (ps_expr (pe_call (ok_check_amount T) (hr.mono (by decide)) rfl T.h_check_amount.m T.h_check_amount.F.kp T.h_check_amount.b .nil (passes_call (E := E) (takes_of rfl rfl rfl rfl) (fun _ _ _ _ h => h)) (pa_cons (pv 1) pa_nil))) (pss_one (ps_ret (pe_meth (pv 0) T.cl_Hand T.h_Hand_add.m (ok_Hand_add T) (hr.mono (by decide)) T.h_Hand_add.b .nil pass0 (pa_cons (pv 1) (pa_cons pe_int pa_nil)))))), ?_⟩
    refine ⟨v, rfl, t, hv.symm, hp, fun hok v2 H1 e1 h2 => ?_, fun hno H' e => k2 hno H' e⟩
    rcases t with m | ⟨v, t⟩
    · obtain rfl : V.int m = v := (List.cons.inj hv).1
      have hm : 1 ≤ m := by
        unfold amtOk at hok
        rw [Bool.and_eq_true] at hok
        exact of_decide_eq_true hok.1
      obtain ⟨dx, pd, hx, _⟩ := id hh
      refine ⟨_, rfl, x, dx, _, rfl, e1 _ _ hx, hfs_no n pd (by decide +kernel) (by decide +kernel), _, rfl, ?_⟩
      exact ⟨x, n, p, _, _, rfl, hh.mono e1, by omega, by omega, by omega, hl, fun H' q eX h3 ho hg hq => k1 m rfl hok H' q ((ExX.of e1).trans eX) h3 (fun b o hb => ho b o (e1 _ _ hb)) hg hq⟩
    · cases hok
theorem ok_Hand_down (T : Txt K mg) : FnOk P w K mg base (L2.CX P w) 5 T.a_Hand_down T.d_Hand_down ["self", "many"] (spUp K T.c_Hand T.c_NoAmount fun m => (0, m)) := by
  refine T.h_Hand_down.F.okX sc_Hand_down (fun vs H Q E h => ?_) (fun cdv A outer s H vs Q E hr h => ?_)
  · obtain ⟨x, n, p, t, rfl, _⟩ := h
    rcases t with t | ⟨v, t⟩ <;> rfl
  · obtain ⟨x, n, p, t, rfl, hh, hp, hl, k1, k2⟩ := h
    obtain ⟨v, hv⟩ := args1I t
    rw [hv]
    refine ⟨_, (pss_cons (ps_expr (pe_call (ok_check_amount T) (hr.mono (by decide)) rfl T.h_check_amount.m T.h_check_amount.F.kp T.h_check_amount.b .nil (passes_call (E := E) (takes_of rfl rfl rfl rfl) (fun _ _ _ _ h => h)) (pa_cons (pv 1) pa_nil))) (pss_one (ps_ret (pe_meth (pv 0) T.cl_Hand T.h_Hand_add.m (ok_Hand_add T) (hr.mono (by decide)) T.h_Hand_add.b .nil pass0 (pa_cons pe_int (pa_cons (pv 1) pa_nil)))))), ?_⟩
    refine ⟨v, rfl, t, hv.symm, hp, fun hok v2 H1 e1 h2 => ?_, fun hno H' e => k2 hno H' e⟩
    rcases t with m | ⟨v, t⟩
    · obtain rfl : V.int m = v := (List.cons.inj hv).1
      have hm : 1 ≤ m := by
        unfold amtOk at hok
        rw [Bool.and_eq_true] at hok
        exact of_decide_eq_true hok.1
      obtain ⟨dx, pd, hx, _⟩ := id hh
      refine ⟨_, rfl, x, dx, _, rfl, e1 _ _ hx, hfs_no n pd (by decide +kernel) (by decide +kernel), _, rfl, ?_⟩
      exact ⟨x, n, p, _, _, rfl, hh.mono e1, by omega, by omega, by omega, hl, fun H' q eX h3 ho hg hq => k1 m rfl hok H' q ((ExX.of e1).trans eX) h3 (fun b o hb => ho b o (e1 _ _ hb)) hg hq⟩
    · cases hok
end

--CUT gn
abbrev BIG : Int := 1000000000000000000000000000000000000000000000000000000000000
theorem big_eq : (10 : Int) ^ (60 : Int).toNat = BIG := by decide +kernel

/-! ### the law's names -/
def lowC' (c : Nat) : Prop := 97 ≤ c ∧ c ≤ 122
def letter (i : Int) : Nat := 97 + (i % 26).toNat
theorem letter_low (i : Int) : lowC' (letter i) := by
  unfold letter lowC'
  have := Int.emod_nonneg i (by decide : (26 : Int) ≠ 0)
  have := Int.emod_lt_of_pos i (by decide : (0 : Int) < 26)
  omega
def alpha : List Nat := (List.range 26).map (· + 97)
theorem alpha_str : Str.ofString "abcdefghijklmnopqrstuvwxyz" = ofL alpha := by decide +kernel
theorem alpha_at (i : Int) : alpha[(i % 26).toNat]? = some (letter i) := by
  have h1 := Int.emod_nonneg i (by decide : (26 : Int) ≠ 0)
  have h2 := Int.emod_lt_of_pos i (by decide : (0 : Int) < 26)
  unfold alpha letter
  rw [List.getElem?_map, List.getElem?_range (by omega)]
  show some _ = some _
  congr 1
  exact Nat.add_comm _ _
theorem alpha_ix (i : Int) : atI alpha (i % 26) = some (letter i) := by
  have h1 := Int.emod_nonneg i (by decide : (26 : Int) ≠ 0)
  have e0 : (((i % 26).toNat : Nat) : Int) = i % 26 := by omega
  rw [← e0]
  exact atI_nat (alpha_at i)
def nameBase (c : Int) : List Nat := (List.range (1 + c % 8).toNat).map fun (k : Nat) => letter (c / 8 + (k : Int) * (1 + c / 208 % 25))
def nameBy (c : Int) : List Nat := if c / 5200 % 2 = 1 then (nameBase c).set (c / 10400 % (nameBase c).length).toNat (letter (c / 83200)) else nameBase c
theorem nameBase_len (c : Int) : ((nameBase c).length : Int) = 1 + c % 8 := by
  unfold nameBase
  rw [List.length_map, List.length_range]
  have h1 := Int.emod_nonneg c (by decide : (8 : Int) ≠ 0)
  omega
theorem nameBy_len (c : Int) : ((nameBy c).length : Int) = 1 + c % 8 := by
  unfold nameBy
  split
  · rw [List.length_set]; exact nameBase_len c
  · exact nameBase_len c
theorem nameBy_low (c : Int) : ∀ x ∈ nameBy c, lowC' x := by
  have hb : ∀ x ∈ nameBase c, lowC' x := by
    intro x hx
    unfold nameBase at hx
    obtain ⟨k, _, rfl⟩ := List.mem_map.mp hx
    exact letter_low _
  intro x hx
  unfold nameBy at hx
  split at hx
  · rcases List.mem_or_eq_of_mem_set hx with h | rfl
    · exact hb x h
    · exact letter_low _
  · exact hb x hx
/-- a name by its signs -/
def GoodN (cs : List Nat) : Prop := 1 ≤ cs.length ∧ cs.length ≤ 8 ∧ ∀ x ∈ cs, lowC' x
theorem nameBy_good (c : Int) : GoodN (nameBy c) := by
  have h := nameBy_len c
  have h1 := Int.emod_nonneg c (by decide : (8 : Int) ≠ 0)
  have h2 := Int.emod_lt_of_pos c (by decide : (0 : Int) < 8)
  exact ⟨by omega, by omega, nameBy_low c⟩
section
variable {P : Program} {w : World} {K : PySem.W.Frag} {mg : Str → Option Value} {base : Heap}
abbrev spNameBy : Sp := SpF (fun c : Int => [.int c]) (fun _ _ => True) (fun c _ => Is (.str (ofL (nameBy c))))
theorem sv_nameBy {c : Int} {H : Hp} : SpV spNameBy [.int c] H (.str (ofL (nameBy c))) := sv_of (sx_of c (fun _ _ => trivial) fun _ _ _ _ _ h => h)
theorem ok_law_name_by (T : Txt K mg) : FnOk P w K mg base CX0 1 T.a_law_name_by T.d_law_name_by ["_law_cell"] spNameBy := by
  refine T.h_law_name_by.F.ok sc_law_name_by (fun vs H Q E h => ?_) (fun cdv A outer s H vs Q E hr h => ?_)
  · obtain ⟨c, rfl, _⟩ := h
    rfl
  · obtain ⟨c, rfl, _, k⟩ := h
    refine ⟨_, (pss_cons (ps_set (i := 1) sc_law_name_by.nd rfl (by first | exact Or.inl rfl | exact Or.inr rfl) pe_str) (pss_cons (ps_set (i := 2) sc_law_name_by.nd rfl (by first | exact Or.inl rfl | exact Or.inr rfl) (pe_op op_add pe_int (pe_op op_mod (pe_op op_fdiv (pv 0) pe_int) pe_int))) (pss_cons (ps_setLc (i := 3) (own := [("_law_k", 4)]) (g := _)  rfl sc_law_name_by.nd rfl rfl (sw_true rfl rfl rfl (by decide +kernel)) (pi_range1 (by rfl) T.n_range (pa_cons (pe_op op_add pe_int (pe_op op_mod (pv 0) pe_int)) pa_nil)) (blkOk_by (own := [("_law_k", 4)]) (N := ["_law_cell", "_law_signs", "_law_step", "_law_word", "_law_k"]) (sc := defScope s_law_name_by) (by decide +kernel)) (fun _ _ _ _ _ => (pg_name (i := 4) sc_law_name_by.nd rfl (by first | exact Or.inl rfl | exact Or.inr rfl))) (fun _ _ _ _ _ => pts_nil) (fun _ _ _ _ _ => (pe_ix ix_str (pv 1) (pe_op op_mod (pe_op op_add (pe_op op_fdiv (pv 0) pe_int) (pe_op op_mul (pv 4) (pv 2))) pe_int) (fun _ _ => rfl)))) (pss_cons (ps_if (pt_cmpR op_eq (pe_op op_mod (pe_op op_fdiv (pv 0) pe_int) pe_int) pe_int (nomark _)) (pss_one (ps_asg (pe_ix ix_str (pv 1) (pe_op op_mod (pe_op op_fdiv (pv 0) pe_int) pe_int) (fun _ _ => rfl)) (pg_sub (pv 3) (pe_op op_mod (pe_op op_fdiv (pv 0) pe_int) (pe_callB call_len_seq (by rfl) T.n_len PySem.boot_len (pa_cons (pv 3) pa_nil))) set_list))) pss_nil) (pss_one (ps_ret (pe_join pe_str (pv 3)))))))), ?_⟩
    have h1 := Int.emod_nonneg c (by decide : (8 : Int) ≠ 0)
    have h2 := Int.emod_lt_of_pos c (by decide : (0 : Int) < 8)
    have h3 := Int.emod_nonneg (c / 208) (by decide : (25 : Int) ≠ 0)
    have h4 := Int.emod_lt_of_pos (c / 208) (by decide : (0 : Int) < 25)
    have hl := nameBase_len c
    refine q_asg (v := .str (ofL alpha)) (ev_is ev_c (by rw [alpha_str])) fun H1 e1 => ?_
    refine q_asg (by walk_at "ev") fun H2 e2 => ?_
    refine q_asgL (el_lcR1 (n := 1 + c % 8) (fun _ => true) (fun i => .str (sg (letter (c / 8 + (i : Int) * (1 + c / 208 % 25))))) (ea_cons (by walk_at "ev") ea_nil) (by omega) (fun _ => rfl) (fun i H3 e3 hi => et_yes) (fun i H3 e3 hi _ => ?_)) fun p H3 hp e3 h3 => ?_
    · refine ev_op (y := .int ((c / 8 + (i : Int) * (1 + c / 208 % 25)) % 26)) (ev_var rfl) ?_ (rv_ixS (by rw [ofL_len]; decide) (alpha_ix _))
      exact ev_op (ev_op (ev_op (ev_var rfl) ev_c (rv_I ⟨by decide, by decide⟩)) (ev_op (ev_var rfl) (ev_var rfl) (rv_I (Or.inl ⟨by omega, by omega⟩))) rv_I0) ev_c (rv_I (by show (0 : Int) < 26; decide))
    rw [given_all] at h3
    have h3' : H3 p = some (.lst (((nameBase c).map sg).map V.str)) := by
      rw [h3]
      unfold nameBase
      rw [List.map_map, List.map_map]
      rfl
    clear h3
    refine q_when (b := decide (V.int (c / 5200 % 2) = V.int 1)) (by walk_at "ev") (fun hb H4 e4 => ?_) (fun hb H4 e4 => ?_)
    · have hb' := V.int.inj (of_decide_eq_true hb)
      have hn : (0 : Int) < (nameBase c).length := by omega
      have hm1 : 0 ≤ c / 10400 % ((nameBase c).length : Int) := Int.emod_nonneg _ (by omega)
      have hm2 : c / 10400 % ((nameBase c).length : Int) < (nameBase c).length := Int.emod_lt_of_pos _ hn
      refine s_setL (l := p) (xs := ((nameBase c).map sg).map V.str) (j := (c / 10400 % ((nameBase c).length : Int)).toNat) (v := .str (sg (letter (c / 83200)))) (e4 _ _ h3') ?_ (ev_var rfl) ?_ (by simp; omega) fun H5 e5 => ?_
      · exact ev_op (y := .int (c / 83200 % 26)) (ev_var rfl) (by walk_at "ev") (rv_ixS (by rw [ofL_len]; decide) (alpha_ix _))
      · have e5 : (((c / 10400 % ((nameBase c).length : Int)).toNat : Nat) : Int) = c / 10400 % ((nameBase c).length : Int) := by omega
        rw [e5]
        exact ev_op (by walk_at "ev") (ev_is (ev_cb (ea_cons (ev_var rfl) ea_nil) (rc_lenL (sq_of (e4 _ _ h3')))) (by simp)) (rv_I hn)
      dsimp only
      have e6 : (((nameBase c).map sg).map V.str).set (c / 10400 % ((nameBase c).length : Int)).toNat (.str (sg (letter (c / 83200)))) = ((nameBy c).map sg).map V.str := by
        unfold nameBy
        rw [if_pos hb', List.map_set, List.map_set]
      rw [e6]
      have hg := nameBy_good c
      refine s_ret (x_join (cs := nameBy c) ev_c (x_varL rfl (sq_of upd_same)) (by have := hg.2.1; omega)) fun H6 e6 => k _ _ ?_ rfl
      refine Ex.trans (Ex.mut ?_ (fresh_back e1 (fresh_back e2 hp))) e6
      walk_at "ex"
    · have hb' : ¬ c / 5200 % 2 = 1 := fun z => of_decide_eq_false hb (congrArg V.int z)
      have e6 : nameBase c = nameBy c := by
        unfold nameBy
        rw [if_neg hb']
      rw [e6] at h3'
      have hg := nameBy_good c
      refine s_ret (x_join (cs := nameBy c) ev_c (x_varL rfl (sq_of (e4 _ _ h3'))) (by have := hg.2.1; omega)) fun H5 e5 => k _ _ (by walk_at "ex") rfl
end
local macro_rules | `(tactic| walk_at "sv") => `(tactic| exact sv_nameBy)

/-! ### pages that is_page takes -/
def GoodE (e : Nm × Int × Int) : Prop := GoodN e.1 ∧ ShPos e.2 ∧ e.2.1 < BIG ∧ e.2.2 < BIG
def PgGood (p : Pg) : Prop := ∀ e ∈ p, GoodE e
theorem PgGood.pos {p : Pg} (h : PgGood p) : PgPos p := fun e he => (h e he).2.1
theorem nameOk_good {cs : List Nat} (h : GoodN cs) : nameOk (ofL cs) = true := by
  unfold nameOk
  have h1 := h.1
  have h2 := h.2.1
  rw [ofL_len, decide_eq_true (by omega : (1 : Int) ≤ cs.length), decide_eq_true (by omega : (cs.length : Int) ≤ 8)]
  refine List.all_eq_true.mpr fun x hx => ?_
  have h3 := h.2.2 x hx
  unfold lowC' at h3
  unfold lowC
  rw [decide_eq_true (by omega : 97 ≤ x), decide_eq_true (by omega : x ≤ 122)]
  rfl
theorem good_names {p : Pg} (h : PgGood p) : ∀ n ∈ p.map (·.1), GoodN n := fun n hn => by
  obtain ⟨e, he, rfl⟩ := List.mem_map.mp hn
  exact (h e he).1
theorem putP_mem {p : Pg} {n : Nm} {s : Int × Int} {e : Nm × Int × Int} (h : e ∈ putP p n s) : e ∈ p ∨ e = (n, s) := by
  unfold putP at h
  split at h
  · obtain ⟨x, hx, rfl⟩ := List.mem_map.mp h
    by_cases c : x.1 = n
    · rw [if_pos c]
      exact .inr (by rw [c])
    · rw [if_neg c]
      exact .inl hx
  · rcases List.mem_append.mp h with h | h
    · exact .inl h
    · exact .inr (List.mem_singleton.mp h)
theorem putP_good {p : Pg} {n : Nm} {s : Int × Int} (h : PgGood p) (hn : GoodE (n, s)) : PgGood (putP p n s) := fun e he => (putP_mem he).elim (h e) fun z => by rw [z]; exact hn
theorem paired_mem {α β : Type} {F : α → β → Prop} : ∀ {l : List α} {m : List β}, Paired F l m → ∀ x ∈ l, ∃ y ∈ m, F x y
  | _, _, .nil, x, h => by cases h
  | _, _, .cons r t, x, h => by
    rcases List.mem_cons.mp h with rfl | h
    · exact ⟨_, List.mem_cons_self, r⟩
    · obtain ⟨y, h1, h2⟩ := paired_mem t x h
      exact ⟨y, List.mem_cons_of_mem _ h1, h2⟩
theorem pg_is {K : PySem.W.Frag} {H : Hp} {d : Addr} {p : Pg} (h : PgAt K H d p) (hg : PgGood p) (hl : p.length ≤ 200) : ∃ es : List (Key × V × Bool), preP K (.inl (d, es)) H ∧ pageB es = true := by
  obtain ⟨kvs, h1, h2, _⟩ := h
  have hlen := h2.len
  have one : ∀ kv ∈ kvs, ∃ n : Nm, kv.1 = .inr (ofL n) ∧ GoodN n ∧ ShAt K H kv.2 true := fun kv hkv => by
    obtain ⟨e, he, e1, q, e2, e3⟩ := paired_mem h2 kv hkv
    obtain ⟨g1, g2, g3, g4⟩ := hg e he
    refine ⟨e.1, e1, g1, .inl ⟨q, _, e2, e3, rfl, (by show 2 ≤ 1000; decide), ?_⟩⟩
    unfold ShPos at g2
    have n1 : numOk (.int e.2.1) = true := by
      show (decide (0 ≤ e.2.1) && decide (e.2.1 < BIG)) = true
      rw [decide_eq_true g2.1, decide_eq_true g3]
      rfl
    have n2 : numOk (.int e.2.2) = true := by
      show (decide (0 ≤ e.2.2) && decide (e.2.2 < BIG)) = true
      rw [decide_eq_true g2.2.1, decide_eq_true g4]
      rfl
    have n3 : shOk0 [.int e.2.1, .int e.2.2] = true := by
      unfold shOk0
      rw [List.all_cons, List.all_cons, n1, n2]
      rfl
    rw [n3, Bool.true_and, decide_eq_false]
    · rfl
    · intro z
      simp only [List.cons.injEq, V.int.injEq, and_true] at z
      exact g2.2.2 z
  refine ⟨kvs.map fun kv => (kv.1, kv.2, true), ⟨?_, by rw [List.length_map]; omega, fun e he => ?_⟩, ?_⟩
  · rw [List.map_map]
    have : ((fun e : Key × V × Bool => (e.1, e.2.1)) ∘ fun kv : Key × V => (kv.1, kv.2, true)) = id := by
      funext kv
      rfl
    rw [this, List.map_id]
    exact h1
  · obtain ⟨kv, hkv, rfl⟩ := List.mem_map.mp he
    obtain ⟨n, e1, g1, g2⟩ := one kv hkv
    refine ⟨?_, g2⟩
    show KeyLen kv.1
    rw [e1]
    show n.length ≤ 30000
    have := g1.2.1
    omega
  · unfold pageB
    rw [List.length_map, decide_eq_true (by omega : kvs.length ≤ 200), Bool.true_and, List.all_map, List.all_eq_true]
    intro kv hkv
    obtain ⟨n, e1, g1, _⟩ := one kv hkv
    show (keyOk kv.1 && true) = true
    rw [e1, Bool.and_true]
    exact nameOk_good g1
def pgB : (Addr × List (Key × V × Bool)) ⊕ (V × String) → Bool
  | .inl (_, es) => pageB es
  | .inr _ => false
theorem args1P (t : (Addr × List (Key × V × Bool)) ⊕ (V × String)) : ∃ v, argsP t = [v] := by rcases t with ⟨z, es⟩ | ⟨v, t⟩ <;> exact ⟨_, rfl⟩
section
variable {K : PySem.W.Frag} {H H' : Hp}
theorem preP_mono {t : (Addr × List (Key × V × Bool)) ⊕ (V × String)} (e : Ex H H') (h : preP K t H) : preP K t H' := by
  rcases t with ⟨d, es⟩ | ⟨v, t⟩
  · exact ⟨e _ _ h.1, h.2.1, fun x hx => ⟨(h.2.2 x hx).1, (h.2.2 x hx).2.mono e⟩⟩
  · exact ⟨tyx_mono e h.1, h.2⟩
theorem sv_pg {t : (Addr × List (Key × V × Bool)) ⊕ (V × String)} (h : preP K t H) : SpV (spIsPage K) (argsP t) H (.bl (pgB t)) := by
  rcases t with ⟨d, es⟩ | ⟨v, t⟩
  · exact sv_isPage h.1 h.2.1 h.2.2
  · exact sv_noPage h.1 h.2
/-- what no page is -/
def BadV (K : PySem.W.Frag) : VP := fun v H => ∃ t, argsP t = [v] ∧ preP K t H ∧ pgB t = false
instance : Mono (BadV K) := ⟨fun e ⟨t, a, b, c⟩ => ⟨t, a, preP_mono e b, c⟩⟩
end

--CUT handb
/-! ### letters, trust, what is heard -/
theorem lack_pos {p q : Pg} {ns : List Nm} (h : PgPos q) : PgPos (lackP p q ns) := fun e he => h _ (getP_is (lackP_mem he))
theorem lack_get {p q : Pg} {ns : List Nm} (hq : ns.Perm (q.map (·.1))) (hn : ns.Nodup) (m : Nm) : getP (lackP p q ns) m = (getP q m).bind fun s => if reachB ((getP p m).getD (0, 0)) s = true then none else some s := by
  have hnd : ((lackP p q ns).map (·.1)).Nodup := (lackP_sub p q ns).nodup hn
  cases c : getP q m with
  | none =>
    rw [Option.bind_none]
    cases d : getP (lackP p q ns) m with
    | none => rfl
    | some s =>
      have := lackP_mem (getP_is d)
      rw [c] at this
      cases this
  | some s =>
    rw [Option.bind_some]
    have hm : m ∈ ns := hq.mem_iff.mpr (List.mem_map.mpr ⟨_, getP_is c, rfl⟩)
    by_cases r : reachB ((getP p m).getD (0, 0)) s = true
    · rw [if_pos r]
      cases d : getP (lackP p q ns) m with
      | none => rfl
      | some t =>
        have h1 := getP_is d
        unfold lackP at h1
        obtain ⟨k, _, hk⟩ := List.mem_filterMap.mp h1
        cases g : getP q k with
        | none => rw [g] at hk; cases hk
        | some u =>
          rw [g, Option.bind_some] at hk
          split at hk
          · cases hk
          · rename_i hr
            obtain ⟨rfl, rfl⟩ := Prod.mk.inj (Option.some.inj hk)
            rw [c] at g
            obtain rfl := Option.some.inj g
            exact absurd r hr
    · rw [if_neg r]
      refine getP_mem hnd (m, s) ?_
      unfold lackP
      refine List.mem_filterMap.mpr ⟨m, hm, ?_⟩
      rw [c, Option.bind_some, if_neg r]
theorem join_lack {p q : Pg} {ns : List Nm} (hp : PgPos p) (hq : PgPos q) (hm : ns.Perm (q.map (·.1))) (hn : ns.Nodup) (m : Nm) : joinG p (lackP p q ns) m = joinG p q m := by
  unfold joinG
  rw [lack_get hm hn]
  cases c : getP q m with
  | none => rfl
  | some s =>
    rw [Option.bind_some]
    by_cases r : reachB ((getP p m).getD (0, 0)) s = true
    · rw [if_pos r]
      show getP p m = some (gr s _)
      have hs := hq _ (getP_is c)
      unfold reachB at r
      rw [Bool.and_eq_true] at r
      have r1 := of_decide_eq_true r.1
      have r2 := of_decide_eq_true r.2
      cases d : getP p m with
      | none =>
        rw [d] at r1 r2
        exfalso
        unfold ShPos at hs
        replace r1 : s.1 ≤ 0 := r1
        replace r2 : s.2 ≤ 0 := r2
        have h1 : 0 ≤ s.1 := hs.1
        have h2 : 0 ≤ s.2 := hs.2.1
        exact hs.2.2 ⟨by show s.1 = 0; omega, by show s.2 = 0; omega⟩
      | some t =>
        rw [d] at r1 r2
        replace r1 : s.1 ≤ t.1 := r1
        replace r2 : s.2 ≤ t.2 := r2
        show some t = some (gr s t)
        congr 1
        unfold gr mx
        refine Prod.ext ?_ ?_
        · show t.1 = if t.1 > s.1 then t.1 else s.1
          split <;> omega
        · show t.2 = if t.2 > s.2 then t.2 else s.2
          split <;> omega
    · rw [if_neg r]
section
variable {P : Program} {w : World} {K : PySem.W.Frag} {mg : Str → Option Value} {base : Heap}
abbrev spCkPage (K : PySem.W.Frag) (N : Addr) : Sp := fun vs H Q E => ∃ v : V, vs = [v] ∧ ((∃ a q, v = .ref a ∧ PgAt K H a q ∧ PgGood q ∧ q.length ≤ 200 ∧ Ret (Is .non) H Q) ∨ (BadV K v H ∧ ∀ H', Ex H H' → E (.ref N) none H'))
theorem ok_check_page (T : Txt K mg) : FnOk P w K mg base (L2.CX P w) 5 T.a_check_page T.d_check_page ["thing"] (spCkPage K T.c_NoPage) := by
  refine T.h_check_page.F.okX sc_check_page (fun vs H Q E h => ?_) (fun cdv A outer s H vs Q E hr h => ?_)
  · obtain ⟨v, rfl, _⟩ := h
    rfl
  · obtain ⟨v, rfl, h⟩ := h
    refine ⟨_, (pss_one (ps_if (pt_not (pt_val (pe_call (ok_is_page T) (hr.mono (by decide)) rfl T.h_is_page.m T.h_is_page.F.kp T.h_is_page.b .nil pass0 (pa_cons (pv 0) pa_nil)))) (pss_one (ps_raise rfl (takes_of rfl rfl rfl rfl) (pmk_own PySem.F.excBase_ValueError T.x_NoPage.q T.x_NoPage.g T.x_NoPage.kp (raises_own T.x_NoPage.b T.x_NoPage.t) rfl))) pss_nil)), ?_⟩
    rcases h with ⟨a, q, rfl, hq, hg, hl, k⟩ | ⟨⟨t, ht, hp, hno⟩, k⟩
    · obtain ⟨es, hp, hb⟩ := pg_is hq hg hl
      have sv := sv_pg hp
      refine s_when (b := !true) (et_not (et_B (ev_call (ea_cons (ev_var rfl) ea_nil) (by rw [← hb]; exact sv)))) (fun hb _ _ => by cases hb) (fun _ H1 e1 => k _ H1 e1 rfl)
    · have sv := sv_pg hp
      rw [ht] at sv
      refine s_when (b := !false) (et_not (et_B (ev_call (ea_cons (ev_var rfl) ea_nil) (by rw [← hno]; exact sv)))) (fun _ H1 e1 => k H1 e1) (fun hb _ _ => by cases hb)
abbrev spTrusts (K : PySem.W.Frag) (C : Addr) : Sp := SpF (fun x : (Addr × Addr) × Nm × Pg × Pg => [.ref x.1.1, .ref x.1.2]) (fun x H => HandAt K C H x.1.1 x.2.1 x.2.2.1 ∧ PgRd K H x.1.2 x.2.2.2) (fun x _ => Is (.bl (reachB ((getP x.2.2.1 x.2.1).getD (0, 0)) ((getP x.2.2.2 x.2.1).getD (0, 0)))))
theorem x_trusts {T : Txt K mg} {σ : L2.St} {H : Hp} {ta tb : TE} {E : XK} {x a : Addr} {n : Nm} {p q : Pg} (h : Ev ta σ H (.ref x)) (h1 : Ev tb σ H (.ref a)) (hh : HandAt K T.c_Hand H x n p) (hq : PgRd K H a q) :
    Ev (tMeth T.c_Hand "trusts" (spTrusts K T.c_Hand) [] E ta (tCons tb tNil)) σ H (.bl (reachB ((getP p n).getD (0, 0)) ((getP q n).getD (0, 0)))) := by
  obtain ⟨dx, pd, hx, _⟩ := id hh
  refine ev_x (x_meth1 h (x_ev h1) hx (hfs_no n pd (by decide +kernel) (by decide +kernel)) ?_)
  rintro _ H1 e rfl
  exact sx_of ((x, a), n, p, q) (fun H2 e2 => ⟨hh.mono (e.trans e2), hq.mono (e.trans e2)⟩) fun _ _ _ _ _ hv => hv
theorem ok_Hand_trusts (T : Txt K mg) : FnOk P w K mg base CX0 2 T.a_Hand_trusts T.d_Hand_trusts ["self", "page"] (spTrusts K T.c_Hand) := by
  refine T.h_Hand_trusts.F.ok sc_Hand_trusts (fun vs H Q E h => ?_) (fun cdv A outer s H vs Q E hr h => ?_)
  · obtain ⟨c, rfl, _⟩ := h
    rfl
  · obtain ⟨⟨⟨x, a⟩, n, p, q⟩, rfl, ⟨⟨dx, pd, hx, hpd, _⟩, hq⟩, k⟩ := h
    simp only at hx hpd hq k
    refine ⟨_, (pss_one (ps_ret (pe_call (ok_reaches T) (hr.mono (by decide)) rfl T.h_reaches.m T.h_reaches.F.kp T.h_reaches.b .nil pass0 (pa_cons (pe_call (ok_share_of T) (hr.mono (by decide)) rfl T.h_share_of.m T.h_share_of.F.kp T.h_share_of.b .nil pass0 (pa_cons (pe_fld (pv 0) rfl) (pa_cons (pe_fld (pv 0) rfl) pa_nil))) (pa_cons (pe_call (ok_share_of T) (hr.mono (by decide)) rfl T.h_share_of.m T.h_share_of.F.kp T.h_share_of.b .nil pass0 (pa_cons (pv 1) (pa_cons (pe_fld (pv 0) rfl) pa_nil))) pa_nil))))), ?_⟩
    have fn := ev_fld (K := K) (σ := [some (.ref x), some (.ref a)]) (ta := tVar 0) (ev_var rfl) hx T.cl_Hand T.na_Hand_name (hfs_name n pd)
    have fp := ev_fld (K := K) (σ := [some (.ref x), some (.ref a)]) (ta := tVar 0) (ev_var rfl) hx T.cl_Hand T.na_Hand_page (hfs_page n pd)
    exact s_ret (x_reaches (K := K) (x_shareOf (K := K) fp fn hpd.rd) (x_shareOf (K := K) (ev_var rfl) fn hq)) fun H1 e1 => k _ _ e1 rfl
abbrev spLetter (K : PySem.W.Frag) (C N : Addr) : Sp := fun vs H Q E => ∃ (x : Addr) (v : V) (n : Nm) (p : Pg), vs = [.ref x, v] ∧ HandAt K C H x n p ∧
  ((∃ a q, v = .ref a ∧ PgAt K H a q ∧ PgGood q ∧ q.length ≤ 200 ∧ Ret (LackV K H q p) H Q) ∨ (BadV K v H ∧ ∀ H', Ex H H' → E (.ref N) none H'))
theorem ok_Hand_letter (T : Txt K mg) : FnOk P w K mg base (L2.CX P w) 6 T.a_Hand_letter T.d_Hand_letter ["self", "page"] (spLetter K T.c_Hand T.c_NoPage) := by
  refine T.h_Hand_letter.F.okX sc_Hand_letter (fun vs H Q E h => ?_) (fun cdv A outer s H vs Q E hr h => ?_)
  · obtain ⟨x, v, n, p, rfl, _⟩ := h
    rfl
  · obtain ⟨x, v, n, p, rfl, ⟨dx, pd, hx, hpd, _⟩, h⟩ := h
    refine ⟨_, (pss_cons (ps_expr (pe_call (ok_check_page T) (hr.mono (by decide)) rfl T.h_check_page.m T.h_check_page.F.kp T.h_check_page.b .nil (passes_call (E := E) (takes_of rfl rfl rfl rfl) (fun _ _ _ _ h => h)) (pa_cons (pv 1) pa_nil))) (pss_one (ps_ret (pe_call (ok_lacking T) (hr.mono (by decide)) rfl T.h_lacking.m T.h_lacking.F.kp T.h_lacking.b .nil pass0 (pa_cons (pv 1) (pa_cons (pe_fld (pv 0) rfl) pa_nil)))))), ?_⟩
    refine ⟨v, rfl, v, rfl, ?_⟩
    rcases h with ⟨a, q, rfl, hq, hg, hl, k⟩ | ⟨hb, k⟩
    · refine .inl ⟨a, q, rfl, hq, hg, hl, fun v2 H1 e1 h2 => ?_⟩
      refine sx_ret (x_lacking (K := K) (ev_var rfl) (ev_fld (ev_var rfl) (e1 _ _ hx) T.cl_Hand T.na_Hand_page (hfs_page n pd)) (hq.mono e1).rd (hpd.mono e1).rd) fun v3 H2 e2 h3 => ?_
      obtain ⟨d, ns, h4, h5, h6⟩ := h3
      exact k _ _ (e1.trans e2) ⟨d, ns, h4, fresh_back e1 h5, h6⟩
    · exact .inr ⟨hb, k⟩
theorem x_letter {T : Txt K mg} {σ : L2.St} {H : Hp} {ta tb : TE} {E : XK} {P1 : VP} {x : Addr} {n : Nm} {p q : Pg} (h : Ev ta σ H (.ref x)) (h1 : EvX tb σ H P1) (hh : HandAt K T.c_Hand H x n p) (g : ∀ v H1, Ex H H1 → P1 v H1 → ∃ a, v = .ref a ∧ PgAt K H1 a q) (hg : PgGood q) (hl : q.length ≤ 200) :
    EvX (tMeth T.c_Hand "letter" (spLetter K T.c_Hand T.c_NoPage) [] E ta (tCons tb tNil)) σ H (LackV K H q p) := by
  obtain ⟨dx, pd, hx, _⟩ := id hh
  refine x_meth1 h h1 hx (hfs_no n pd (by decide +kernel) (by decide +kernel)) ?_
  intro v H1 e p1
  obtain ⟨a, rfl, ha⟩ := g v H1 e p1
  exact fun H2 e2 Q E q2 => ⟨x, .ref a, n, p, rfl, hh.mono (e.trans e2), .inl ⟨a, q, rfl, ha.mono e2, hg, hl, fun v3 H3 e3 ⟨d, ns, h4, h5, h6⟩ => q2 v3 H3 e3 ⟨d, ns, h4, fresh_back (e.trans e2) h5, h6⟩⟩⟩
theorem HandAt.clr {C x d : Addr} {H : Hp} {n : Nm} {p : Pg} {kvs : List (Key × V)} {o : HO} (hd : H d = some (.dK kvs)) (h : HandAt K C H x n p) (hoff : HandOff C H x n d) : HandAt K C (upd H d o) x n p := by
  obtain ⟨dx, pd, hx, hp, h3⟩ := h
  refine ⟨dx, pd, ?_, hp.upd hd (hoff dx pd hx), h3⟩
  rw [upd_ne]
  · exact hx
  · intro z
    rw [z, hd] at hx
    cases hx
def LearnR (K : PySem.W.Frag) (C : Addr) (x : Addr) (n : Nm) (p q : Pg) (H : Hp) (Q : VK) : Prop := ∀ H' r, ExX x H H' → HandAt K C H' x n r → (∀ b o, H b = some o → HandOff C H' x n b) → (∀ m, getP r m = joinG p q m) → r.length ≤ p.length + q.length → Q (.int ((lackP p q (q.map (·.1))).length : Int)) H'
theorem LearnR.mono {C x : Addr} {n : Nm} {p q : Pg} {H H1 : Hp} {Q : VK} (e : Ex H H1) (h : LearnR K C x n p q H Q) : LearnR K C x n p q H1 Q := fun H' r eX hh hoff => h H' r ((ExX.of e).trans eX) hh fun b o hb => hoff b o (e _ _ hb)
abbrev spLearn (K : PySem.W.Frag) (C : Addr) : Sp := fun vs H Q _ => ∃ (x a : Addr) (n : Nm) (p q : Pg), vs = [.ref x, .ref a] ∧ HandAt K C H x n p ∧ PgRd K H a q ∧ PgPos q ∧ p.length + q.length ≤ 900 ∧ LearnR K C x n p q H Q
theorem ok_Hand_learn (T : Txt K mg) : FnOk P w K mg base CX0 3 T.a_Hand_learn T.d_Hand_learn ["self", "page"] (spLearn K T.c_Hand) := by
  refine T.h_Hand_learn.F.ok sc_Hand_learn (fun vs H Q E h => ?_) (fun cdv A outer s H vs Q E hr h => ?_)
  · obtain ⟨x, a, n, p, q, rfl, _⟩ := h
    rfl
  · obtain ⟨x, a, n, p, q, rfl, ⟨dx, pd, hx, hpd, hpos, hris, hnm⟩, hq, hqp, hl, k⟩ := h
    refine ⟨_, (pss_cons (ps_set (i := 2) sc_Hand_learn.nd rfl (by first | exact Or.inl rfl | exact Or.inr rfl) (pe_call (ok_lacking T) (hr.mono (by decide)) rfl T.h_lacking.m T.h_lacking.F.kp T.h_lacking.b .nil pass0 (pa_cons (pe_fld (pv 0) rfl) (pa_cons (pv 1) pa_nil)))) (pss_cons (ps_fld (pv 0) (pe_call (ok_joined T) (hr.mono (by decide)) rfl T.h_joined.m T.h_joined.F.kp T.h_joined.b .nil pass0 (pa_cons (pe_fld (pv 0) rfl) (pa_cons (pv 2) pa_nil))) rfl) (pss_one (ps_ret (pe_callB call_lenD (by rfl) T.n_len PySem.boot_len (pa_cons (pv 2) pa_nil)))))), ?_⟩
    obtain ⟨_, _, _, hqn, _⟩ := id hq
    refine qx_asg (x_lacking (K := K) (ev_fld (ev_var rfl) hx T.cl_Hand T.na_Hand_page (hfs_page n pd)) (ev_var rfl) hpd.rd hq) fun v H1 e1 hv => ?_
    obtain ⟨d, ns, rfl, hd0, hd, hns, _⟩ := hv
    have hnd : ns.Nodup := hns.symm.nodup hqn
    have hll : (lackP p q ns).length = (lackP p q (q.map (·.1))).length := (hns.filterMap _).length_eq
    have hlq : (lackP p q ns).length ≤ q.length := by
      have h1 := (lackP_sub p q ns).length_le
      have h2 := hns.length_eq
      rw [List.length_map] at h1 h2
      omega
    refine q_fld (K := K) (P := JoV K H1 p (lackP p q ns)) (x_joined (K := K) (ev_fld (ev_var rfl) (e1 _ _ hx) T.cl_Hand T.na_Hand_page (hfs_page n pd)) (ev_var rfl) (hpd.mono e1).rd hd.rd hpos (by omega)) (ev_var rfl) (e1 _ _ hx) T.cl_Hand T.na_Hand_page (hfs_len n pd) fun v H2 e2 hv => ?_
    obtain ⟨d2, r, rfl, hr0, hr, hg, hrr, hlr⟩ := hv
    have hx2 : H2 x = some (.ins T.c_Hand dx (Hfs n pd)) := (e1.trans e2) _ _ hx
    have eX : ExX x H (upd H2 x (.ins T.c_Hand dx (putF "_page" (.ref d2) (Hfs n pd)))) := (ExX.of (e1.trans e2)).trans ExX.upd
    have hrU : PgAt K (upd H2 x (.ins T.c_Hand dx (putF "_page" (.ref d2) (Hfs n pd)))) d2 r := (ExX.upd : ExX x H2 _).pg hx2 hr
    have hdU : PgAt K (upd H2 x (.ins T.c_Hand dx (putF "_page" (.ref d2) (Hfs n pd)))) d (lackP p q ns) := (ExX.upd : ExX x H2 _).pg hx2 (hd.mono e2)
    have hxU : upd H2 x (.ins T.c_Hand dx (putF "_page" (.ref d2) (Hfs n pd))) x = some (.ins T.c_Hand dx (Hfs n d2)) := by rw [upd_same, hfs_put]
    generalize upd H2 x (.ins T.c_Hand dx (putF "_page" (.ref d2) (Hfs n pd))) = H3 at eX hrU hdU hxU
    have hrn : (r.map (·.1)).Nodup := let ⟨_, _, _, z, _⟩ := hr; z
    have hpr : PgPos r := joinG_pos hpos (lack_pos hqp) hrn hg
    obtain ⟨kd, hkd, hkd2⟩ := id hdU
    refine s_ret (v := .int ((lackP p q (q.map (·.1))).length : Int)) (ev_is (ev_cb (ea_cons (ev_var rfl) ea_nil) (rc_lenD hkd)) (by rw [hkd2.1.len, hll])) fun H4 e4 => ?_
    refine k H4 r (eX.trans (ExX.of e4)) (HandAt.mono e4 ⟨dx, d2, hxU, hrU, hpr, hrr, hnm⟩) (fun b o hb dx' pd' hx' => ?_) (fun m => by rw [hg, join_lack hpos hqp hns hnd]) (by omega)
    rw [e4 _ _ hxU] at hx'
    injection hx' with hx'
    injection hx' with _ _ hx'
    obtain rfl := hfs_inj hx'
    intro z
    rw [z, e1 _ _ hb] at hr0
    cases hr0
abbrev spHear (K : PySem.W.Frag) (C N F : Addr) : Sp := fun vs H Q E => ∃ (x : Addr) (v : V) (n : Nm) (p : Pg), vs = [.ref x, v] ∧ HandAt K C H x n p ∧
  ((∃ a q, v = .ref a ∧ PgAt K H a q ∧ PgGood q ∧ q.length ≤ 200 ∧ p.length ≤ 700 ∧ (reachB ((getP p n).getD (0, 0)) ((getP q n).getD (0, 0)) = true → LearnR K C x n p q H Q) ∧ (reachB ((getP p n).getD (0, 0)) ((getP q n).getD (0, 0)) = false → ∀ H', Ex H H' → E (.ref F) none H')) ∨
   (BadV K v H ∧ ∀ H', Ex H H' → E (.ref N) none H'))
theorem ok_Hand_hear (T : Txt K mg) : FnOk P w K mg base (L2.CX P w) 6 T.a_Hand_hear T.d_Hand_hear ["self", "page"] (spHear K T.c_Hand T.c_NoPage T.c_Forged) := by
  refine T.h_Hand_hear.F.okX sc_Hand_hear (fun vs H Q E h => ?_) (fun cdv A outer s H vs Q E hr h => ?_)
  · obtain ⟨x, v, n, p, rfl, _⟩ := h
    rfl
  · obtain ⟨x, v, n, p, rfl, hh, h⟩ := h
    refine ⟨_, (pss_cons (ps_expr (pe_call (ok_check_page T) (hr.mono (by decide)) rfl T.h_check_page.m T.h_check_page.F.kp T.h_check_page.b .nil (passes_call (E := E) (takes_of rfl rfl rfl rfl) (fun _ _ _ _ h => h)) (pa_cons (pv 1) pa_nil))) (pss_cons (ps_if (pt_not (pt_val (pe_meth (pv 0) T.cl_Hand T.h_Hand_trusts.m (ok_Hand_trusts T) (hr.mono (by decide)) T.h_Hand_trusts.b .nil pass0 (pa_cons (pv 1) pa_nil)))) (pss_one (ps_raise rfl (takes_of rfl rfl rfl rfl) (pmk_own PySem.F.excBase_ValueError T.x_Forged.q T.x_Forged.g T.x_Forged.kp (raises_own T.x_Forged.b T.x_Forged.t) rfl))) pss_nil) (pss_one (ps_ret (pe_meth (pv 0) T.cl_Hand T.h_Hand_learn.m (ok_Hand_learn T) (hr.mono (by decide)) T.h_Hand_learn.b .nil pass0 (pa_cons (pv 1) pa_nil)))))), ?_⟩
    refine ⟨v, rfl, v, rfl, ?_⟩
    rcases h with ⟨a, q, rfl, hq, hg, hl, hlp, k1, k2⟩ | ⟨hb, k⟩
    · refine .inl ⟨a, q, rfl, hq, hg, hl, fun v2 H1 e1 h2 => ?_⟩
      dsimp only
      refine q_when (b := !reachB ((getP p n).getD (0, 0)) ((getP q n).getD (0, 0))) (et_not (et_B (x_trusts (T := T) (ev_var rfl) (ev_var rfl) (hh.mono e1) (hq.mono e1).rd))) (fun hb H2 e2 => ?_) (fun hb H2 e2 => ?_)
      · exact k2 (by rw [Bool.not_eq_true'] at hb; exact hb) H2 (e1.trans e2)
      · have hh2 := hh.mono (e1.trans e2)
        obtain ⟨dx, pd, hx, _⟩ := id hh2
        refine ⟨_, rfl, x, dx, _, rfl, hx, hfs_no n pd (by decide +kernel) (by decide +kernel), .ref a, rfl, x, a, n, p, q, rfl, hh2, (hq.mono (e1.trans e2)).rd, hg.pos, by omega, ?_⟩
        exact (k1 (by rw [Bool.not_eq_false'] at hb; exact hb)).mono (e1.trans e2)
    · exact .inr ⟨hb, k⟩
end

--CUT pgl
/-! ### two dicts alike, values alike by what they hold; a dict cleared -/
section
variable {X : Cx}
open PySem.W in
theorem hits_E {pins : List (Addr × Obj)} {σ : L2.St} {H : Hp} {s : Shared} {A : Around} (I : Inv X pins σ H s) (hu : A.in1.units + 64 < cLine) {kvs : List (Key × V)} {vb : List (Key × Value)} (rb : KV kvs vb) {ks : List (Key × V)} {va : List (Key × Value)} (ra : KV ks va) :
    (∀ p ∈ ks, ∃ y d, valV kvs p.1 = some y ∧ Dp X.K H p.2 d ∧ Dp X.K H y d ∧ SeqAt.shaped d = true) → PySem.W.KeqHits A.in1 s vb va true := by
  unfold KV at ra
  induction ra with
  | nil => intro _; exact .nil
  | @cons p q ps qs h t ih =>
    intro hp
    obtain ⟨h1, h2⟩ := h
    obtain ⟨y, d, e, dx, dy, sd⟩ := hp p List.mem_cons_self
    have rr : RelO (some y) (PySem.valueAt vb p.1) := by rw [← e]; exact rb.val p.1
    obtain ⟨z, hz, rz⟩ := rr.some_of
    obtain ⟨k, v⟩ := q
    have h1' : p.1 = k := h1
    rw [h1'] at hz
    obtain ⟨as, r1⟩ := Dp.reads I d _ _ dx h2
    obtain ⟨bs, r2⟩ := Dp.reads I d _ _ dy rz
    have key := keq_at (A := A) r1 r2 sd sd hu
    rw [SeqAt.eqv_refl _ (SeqAt.canLay_of_shaped sd)] at key
    show PySem.W.KeqHits A.in1 s vb ((k, v) :: qs) (true && true)
    exact .hit hz key (ih fun p' hm => hp p' (List.mem_cons_of_mem _ hm))
def rDictE (K : PySem.W.Frag) : R2 := fun x y H Q => ∃ a b ks ls, x = .ref a ∧ y = .ref b ∧ H a = some (.dK ks) ∧ H b = some (.dK ls) ∧
  ks.length = ls.length ∧ (∀ p ∈ ks, ∃ y d, valV ls p.1 = some y ∧ Dp K H p.2 d ∧ Dp K H y d ∧ SeqAt.shaped d = true) ∧ Q (.bl false) H
theorem gc_neE_dict (hu : X.A.units + 70 < cLine) : OpR X (compareOp .NotEq) (rDictE X.K) := by
  intro pins s σ H x y v u Q I rx ry h
  obtain ⟨a, b, ks, ls, rfl, rfl, ea, eb, hlen, hp, q⟩ := h
  obtain rfl : v = Value.ref a := rx
  obtain rfl : u = Value.ref b := ry
  obtain ⟨_, ya, va, ra, da⟩ := (show ObjOk X.prog X.w H s.heap a (.dK ks) from I.hok a _ ea)
  obtain ⟨_, yb, vb, rb, db⟩ := (show ObjOk X.prog X.w H s.heap b (.dK ls) from I.hok b _ eb)
  have l1 := ra.length
  have l2 := rb.length
  have hl : va.length = vb.length := by rw [← l1, ← l2]; exact hlen
  exact PySem.W.keq_ne (knd := mixKind X.prog X.w) (r := true) ya yb da db (by omega) (fun _ => hits_E I (by show X.A.units + 1 + 64 < cLine; omega) rb ra hp) (fin_bl I q (by simp [hl]))
theorem units70 {k : Nat} {A : Around} (r : Room k A) : A.units + 70 < cLine := by have := r.un; omega
end
section
variable {K : PySem.W.Frag} {σ : L2.St} {H H' : Hp} {td ta tb : TE} {D : Ends} {tz : TS}
theorem s_clr {d : Addr} {kvs : List (Key × V)} (h : Ev td σ H (.ref d)) (hd : H d = some (.dK kvs)) (k : ∀ H1, Ex H H1 → D.nx σ (upd H1 d (.dK []))) : tDrop (tBM0 K "dict" rDClear td) D σ H :=
  h H (Ex.refl H) _ fun H1 e1 => ⟨.inr (.inr (.inl ⟨rfl, .inl ⟨kvs, e1 _ _ hd⟩⟩)), d, kvs, rfl, rfl, e1 _ _ hd, k H1 e1⟩
theorem q_clr {d : Addr} {kvs : List (Key × V)} (h : Ev td σ H (.ref d)) (hd : H d = some (.dK kvs)) (k : ∀ H1, Ex H H1 → tz D σ (upd H1 d (.dK []))) : tSeq (tDrop (tBM0 K "dict" rDClear td)) tz D σ H := s_clr (D := { D with nx := tz D }) h hd k
theorem pair_val {H : Hp} {ks : List (Key × V)} {p : Pg} (h : PgV K H ks p) {n : Nm} {s : Int × Int} (hn : getP p n = some s) : ∃ q, valV ks (.inr (ofL n)) = some (.ref q) ∧ SqT K H q [.int s.1, .int s.2] := by
  rcases h.get n with ⟨q, t, h1, h2, h3⟩ | ⟨_, h2⟩
  · rw [hn] at h2
    obtain rfl := Option.some.inj h2
    exact ⟨q, h1, h3⟩
  · rw [hn] at h2
    cases h2
theorem rv_neE {a b : Addr} {p q : Pg} (h1 : PgAt K H a p) (h2 : PgAt K H b q) (hpq : p.Perm q) : RV (rDictE K) (.ref a) (.ref b) H (.bl false) := fun H1 e _ k => by
  obtain ⟨ks, a1, a2, a3, a4, a5⟩ := h1.mono e
  obtain ⟨ls, b1, b2, b3, b4, b5⟩ := h2.mono e
  refine ⟨a, b, ks, ls, rfl, rfl, a1, b1, by rw [a2.len, b2.len]; exact hpq.length_eq, fun kv hkv => ?_, k H1 (Ex.refl H1)⟩
  obtain ⟨i, hi, rfl⟩ := List.getElem_of_mem hkv
  obtain ⟨⟨n, s⟩, hem, ekey, x, ex, hx⟩ := a2.at (List.getElem?_eq_getElem hi)
  have hget : getP q n = some s := getP_mem b3 _ (hpq.mem_iff.mp (List.mem_of_getElem? hem))
  obtain ⟨y, hy, hyt⟩ := pair_val b2 hget
  refine ⟨.ref y, .tuple [.int s.1, .int s.2], by rw [ekey]; exact hy, by rw [ex]; exact dp_two hx, dp_two hyt, shaped_two _ _⟩
end

/-! ### pages joined in any order -/
def cmb : Option (Int × Int) → Option (Int × Int) → Option (Int × Int)
  | none, b => b
  | some a, none => some a
  | some a, some b => some (gr a b)
theorem mx_assoc (a b c : Int) : mx (mx a b) c = mx a (mx b c) := by
  unfold mx
  repeat' split
  all_goals omega
theorem mx_self (a : Int) : mx a a = a := by
  unfold mx
  split <;> rfl
theorem gr_comm (a b : Int × Int) : gr a b = gr b a := by
  unfold gr
  rw [mx_comm, mx_comm a.2]
theorem gr_assoc (a b c : Int × Int) : gr (gr a b) c = gr a (gr b c) := by
  unfold gr
  rw [mx_assoc, mx_assoc]
theorem gr_self (a : Int × Int) : gr a a = a := by
  unfold gr
  rw [mx_self, mx_self]
theorem cmb_none (a : Option (Int × Int)) : cmb a none = a := by cases a <;> rfl
theorem cmb_comm (a b : Option (Int × Int)) : cmb a b = cmb b a := by
  cases a <;> cases b <;> try rfl
  exact congrArg some (gr_comm _ _)
theorem cmb_assoc (a b c : Option (Int × Int)) : cmb (cmb a b) c = cmb a (cmb b c) := by
  cases a <;> cases b <;> cases c <;> try rfl
  exact congrArg some (gr_assoc _ _ _)
theorem cmb_self (a : Option (Int × Int)) : cmb a a = a := by
  cases a
  · rfl
  · exact congrArg some (gr_self _)
def JL (L : List Pg) (n : Nm) : Option (Int × Int) := L.foldr (fun p a => cmb (getP p n) a) none
theorem JL_cons (p : Pg) (L : List Pg) (n : Nm) : JL (p :: L) n = cmb (getP p n) (JL L n) := rfl
theorem JL_one (p : Pg) (n : Nm) : JL [p] n = getP p n := cmb_none _
theorem JL_app (L M : List Pg) (n : Nm) : JL (L ++ M) n = cmb (JL L n) (JL M n) := by
  induction L with
  | nil => rfl
  | cons p L ih => rw [List.cons_append, JL_cons, JL_cons, ih, cmb_assoc]
theorem JL_snoc (L : List Pg) (p : Pg) (n : Nm) : JL (L ++ [p]) n = cmb (JL L n) (getP p n) := by rw [JL_app, JL_one]
theorem JL_absorb {L : List Pg} {p : Pg} (h : p ∈ L) (n : Nm) : cmb (getP p n) (JL L n) = JL L n := by
  induction L with
  | nil => cases h
  | cons q L ih =>
    rw [JL_cons]
    rcases List.mem_cons.mp h with rfl | h
    · rw [← cmb_assoc, cmb_self]
    · rw [← cmb_assoc, cmb_comm (getP p n), cmb_assoc, ih h]
theorem JL_no {L : List Pg} {n : Nm} (h : JL L n = none) : ∀ p ∈ L, getP p n = none := by
  induction L with
  | nil => intro p hp; cases hp
  | cons q L ih =>
    rw [JL_cons] at h
    have h2 : getP q n = none ∧ JL L n = none := by
      cases c : getP q n <;> cases d : JL L n <;> rw [c, d] at h <;> first | exact ⟨rfl, rfl⟩ | cases h
    intro p hp
    rcases List.mem_cons.mp hp with rfl | hp
    · exact h2.1
    · exact ih h2.2 p hp
theorem JL_turn (L : List Pg) (c : Nat) (n : Nm) : JL (L.drop c ++ L.take c) n = JL L n := by
  rw [JL_app, cmb_comm, ← JL_app, List.take_append_drop]
theorem JL_ins {L : List Pg} {p : Pg} (h : p ∈ L) (i : Nat) (n : Nm) : JL (L.take i ++ [p] ++ L.drop i) n = JL L n := by
  rw [JL_app, JL_snoc, cmb_comm (JL (L.take i) n), cmb_assoc, ← JL_app, List.take_append_drop, JL_absorb h]
theorem joinG_cmb {p q : Pg} (hq : PgPos q) (n : Nm) : joinG p q n = cmb (getP p n) (getP q n) := by
  unfold joinG
  cases c : getP q n with
  | none => rw [cmb_none]
  | some s =>
    cases d : getP p n with
    | none =>
      have h := hq _ (getP_is c)
      show some (gr s (0, 0)) = some s
      unfold ShPos at h
      have h1 : 0 ≤ s.1 := h.1
      have h2 : 0 ≤ s.2 := h.2.1
      congr 1
      unfold gr mx
      refine Prod.ext ?_ ?_
      · show (if (0 : Int) > s.1 then 0 else s.1) = s.1
        split <;> omega
      · show (if (0 : Int) > s.2 then 0 else s.2) = s.2
        split <;> omega
    | some t => exact congrArg some (gr_comm s t)
/-! ### rows of pages -/
theorem paired_at {α β : Type} {F : α → β → Prop} {l : List α} {m : List β} (h : Paired F l m) {i : Nat} {x : α} (hi : l[i]? = some x) : ∃ y, m[i]? = some y ∧ F x y := by
  induction h generalizing i with
  | nil => simp at hi
  | cons r t ih =>
    cases i with
    | zero =>
      obtain rfl := Option.some.inj hi
      exact ⟨_, rfl, r⟩
    | succ i => exact ih (by simpa using hi)
theorem paired_app {α β : Type} {F : α → β → Prop} {l l' : List α} {m m' : List β} (h : Paired F l m) (h' : Paired F l' m') : Paired F (l ++ l') (m ++ m') := by
  induction h with
  | nil => exact h'
  | cons r t ih => exact .cons r ih
theorem paired_take {α β : Type} {F : α → β → Prop} {l : List α} {m : List β} (h : Paired F l m) (i : Nat) : Paired F (l.take i) (m.take i) := by
  induction h generalizing i with
  | nil =>
    rw [List.take_nil, List.take_nil]
    exact .nil
  | cons r t ih =>
    cases i with
    | zero => exact .nil
    | succ i => exact .cons r (ih i)
theorem paired_drop {α β : Type} {F : α → β → Prop} {l : List α} {m : List β} (h : Paired F l m) (i : Nat) : Paired F (l.drop i) (m.drop i) := by
  induction h generalizing i with
  | nil =>
    rw [List.drop_nil, List.drop_nil]
    exact .nil
  | cons r t ih =>
    cases i with
    | zero => exact .cons r t
    | succ i => exact ih i
def RowL (K : PySem.W.Frag) (H : Hp) (ads : List Addr) (L : List Pg) : Prop := Paired (PgAt K H) ads L
theorem RowL.mono {K : PySem.W.Frag} {H H' : Hp} {ads : List Addr} {L : List Pg} (e : Ex H H') (h : RowL K H ads L) : RowL K H' ads L := Paired.mapP h fun _ _ h => h.mono e
theorem RowL.at {K : PySem.W.Frag} {H : Hp} {ads : List Addr} {L : List Pg} (h : RowL K H ads L) {i : Nat} {p : Pg} (hi : L[i]? = some p) : ∃ a, ads[i]? = some a ∧ PgAt K H a p := by
  have hl := Paired.length h
  have hlt : i < ads.length := by
    have := (List.getElem?_eq_some_iff.mp hi).1
    omega
  obtain ⟨y, h1, h2⟩ := paired_at h (List.getElem?_eq_getElem hlt)
  rw [hi] at h1
  obtain rfl := Option.some.inj h1
  exact ⟨_, List.getElem?_eq_getElem hlt, h2⟩
theorem PgAt.updL {K : PySem.W.Frag} {H : Hp} {d a : Addr} {p : Pg} {xs ys : List V} (ha : H a = some (.lst xs)) (h : PgAt K H d p) : PgAt K (L2.upd H a (.lst ys)) d p := by
  have ht : ∀ {q zs}, SqT K H q zs → SqT K (L2.upd H a (.lst ys)) q zs := fun {q zs} h => by
    rcases h with (h | ⟨o, h⟩) | h
    · exact .inl (.inl (by rw [upd_ne (ne_of h ha (by intro z; cases z))]; exact h))
    · exact .inl (.inr ⟨o, by rw [upd_ne (ne_of h ha (by intro z; cases z))]; exact h⟩)
    · exact .inr h
  obtain ⟨ks, h1, h2, h3⟩ := h
  exact ⟨ks, by rw [upd_ne (ne_of h1 ha (by intro z; cases z))]; exact h1, h2.to fun _ _ => ht, h3⟩
theorem RowL.updL {K : PySem.W.Frag} {H : Hp} {a : Addr} {ads : List Addr} {L : List Pg} {xs ys : List V} (ha : H a = some (.lst xs)) (h : RowL K H ads L) : RowL K (L2.upd H a (.lst ys)) ads L := Paired.mapP h fun _ _ h => h.updL ha
def GoodL (L : List Pg) : Prop := ∀ p ∈ L, PgGood p ∧ p.length ≤ 100
theorem at_ref {ads : List Addr} {i : Nat} {a : Addr} (h : ads[i]? = some a) : atI (ads.map V.ref) (i : Int) = some (.ref a) := atI_nat (by rw [List.getElem?_map, h]; rfl)

theorem totP_perm {p q : Pg} (h : p.Perm q) : totP p = totP q := by
  unfold totP
  induction h with
  | nil => rfl
  | cons x _ ih => simp only [List.map_cons, List.sum_cons]; rw [ih]
  | swap x y l => simp only [List.map_cons, List.sum_cons]; omega
  | trans _ _ h1 h2 => rw [h1, h2]

theorem ix_listK {X : Cx} {K : PySem.W.Frag} (h : X.K = K) : IxR X (rIxL K) := by
  subst h
  exact ix_list
/-! ### two pages alike or not -/
def pgEq (p q : Pg) : Bool := decide (p.length = q.length) && p.all fun e => decide (getP q e.1 = some e.2)
section
variable {X : Cx}
open PySem.W in
theorem hits_P {pins : List (Addr × Obj)} {σ : L2.St} {H : Hp} {s : Shared} {A : Around} (I : Inv X pins σ H s) (hu : A.in1.units + 64 < cLine) {kvs : List (Key × V)} {vb : List (Key × Value)} {q : Pg} (rb : KV kvs vb) (hq : PgV X.K H kvs q) {ks : List (Key × V)} {p : Pg} (hp : PgV X.K H ks p) :
    ∀ {va : List (Key × Value)}, KV ks va → PySem.W.KeqHits A.in1 s vb va (p.all fun e => decide (getP q e.1 = some e.2)) := by
  unfold PgV at hp
  induction hp with
  | nil =>
    intro va ra
    cases ra
    exact .nil
  | @cons kv e ks p h t ih =>
    intro va ra
    cases ra with
    | @cons _ w _ va h1 h2 =>
      obtain ⟨k1, x, k2, hx⟩ := h
      obtain ⟨a1, a2⟩ := h1
      obtain ⟨wk, wv⟩ := w
      have hkey : wk = .inr (ofL e.1) := a1.symm.trans k1
      subst hkey
      rw [k2] at a2
      have rr := rb.val (.inr (ofL e.1))
      rw [List.all_cons]
      rcases hq.get e.1 with ⟨y, t, g1, g2, g3⟩ | ⟨g1, g2⟩
      · rw [g1] at rr
        obtain ⟨z, hz, rz⟩ := rr.some_of
        obtain ⟨as, r1⟩ := Dp.reads I _ _ _ (dp_two hx) a2
        obtain ⟨bs, r2⟩ := Dp.reads I _ _ _ (dp_two g3) rz
        have key := keq_at (A := A) r1 r2 (shaped_two _ _) (shaped_two _ _) hu
        rw [eqv_two] at key
        have e0 : (decide (e.2.1 = t.1) && decide (e.2.2 = t.2)) = decide (getP q e.1 = some e.2) := by
          rw [g2, ← Bool.decide_and]
          refine decide_eq_decide.mpr ⟨fun ⟨z1, z2⟩ => congrArg some (Prod.ext z1.symm z2.symm), fun z => ?_⟩
          have := Option.some.inj z
          exact ⟨by rw [this], by rw [this]⟩
        rw [e0] at key
        exact .hit hz key (ih h2)
      · rw [g1] at rr
        have hn : PySem.valueAt vb (.inr (ofL e.1)) = none := by
          cases c : PySem.valueAt vb (.inr (ofL e.1)) with
          | none => rfl
          | some z =>
            rw [c] at rr
            exact absurd rr (by intro y; cases y)
        have e0 : decide (getP q e.1 = some e.2) = false := by
          rw [g2]
          rfl
        rw [e0, Bool.false_and]
        exact .miss hn
def rPgEq (K : PySem.W.Frag) : R2 := fun x y H Q => ∃ a b p q, x = .ref a ∧ y = .ref b ∧ PgAt K H a p ∧ PgAt K H b q ∧ Q (.bl (pgEq p q)) H
theorem gc_eqP (hu : X.A.units + 70 < cLine) : OpR X (compareOp .Eq) (rPgEq X.K) := by
  intro pins s σ H x y v u Q I rx ry h
  obtain ⟨a, b, p, q, rfl, rfl, ⟨ks, ea, hp, _⟩, ⟨ls, eb, hq, _⟩, k⟩ := h
  obtain rfl : v = Value.ref a := rx
  obtain rfl : u = Value.ref b := ry
  obtain ⟨_, ya, va, ra, da⟩ := (show ObjOk X.prog X.w H s.heap a (.dK ks) from I.hok a _ ea)
  obtain ⟨_, yb, vb, rb, db⟩ := (show ObjOk X.prog X.w H s.heap b (.dK ls) from I.hok b _ eb)
  have l1 := ra.length
  have l2 := rb.length
  have m1 := hp.len
  have m2 := hq.len
  refine PySem.W.keq_eq (knd := mixKind X.prog X.w) ya yb da db (by omega) (fun _ => hits_P I (by show X.A.units + 1 + 64 < cLine; omega) rb hq hp ra) (fin_bl I k ?_)
  unfold pgEq
  rw [← l1, ← l2, m1, m2]
  rfl
end
theorem gc_eqPK {X : Cx} {K : PySem.W.Frag} (h : X.K = K) (hu : X.A.units + 70 < cLine) : OpR X (compareOp .Eq) (rPgEq K) := by
  subst h
  exact gc_eqP hu
theorem rv_pgEq {K : PySem.W.Frag} {H : Hp} {a b : Addr} {p q : Pg} (h1 : PgAt K H a p) (h2 : PgAt K H b q) : RV (rPgEq K) (.ref a) (.ref b) H (.bl (pgEq p q)) := fun H1 e _ k => ⟨a, b, p, q, rfl, rfl, h1.mono e, h2.mono e, k H1 (Ex.refl H1)⟩
def GE (p q : Pg) : Prop := ∀ n, getP p n = getP q n
theorem getP_perm' {p q : Pg} (h : p.Perm q) (hp : (p.map (·.1)).Nodup) (m : Nm) : getP p m = getP q m := by
  have hq : (q.map (·.1)).Nodup := (h.map _).nodup_iff.mp hp
  cases c : getP q m with
  | none =>
    cases d : getP p m with
    | none => rfl
    | some s =>
      have this : getP q m = some s := getP_mem hq (m, s) (h.mem_iff.mp (getP_is d))
      rw [c] at this
      cases this
  | some s => exact getP_mem hp (m, s) (h.mem_iff.mpr (getP_is c))
theorem nodup_len {α : Type} [DecidableEq α] : ∀ {a b : List α}, a.Nodup → (∀ x ∈ a, x ∈ b) → a.length ≤ b.length
  | [], b, _, _ => Nat.zero_le _
  | x :: a, b, hn, h => by
    have hx := h x List.mem_cons_self
    rw [List.nodup_cons] at hn
    have h2 := nodup_len (a := a) (b := b.erase x) hn.2 fun y hy => (List.mem_erase_of_ne (fun z => hn.1 (by rw [← z]; exact hy))).mpr (h y (List.mem_cons_of_mem _ hy))
    rw [List.length_erase_of_mem hx] at h2
    have h3 : 0 < b.length := List.length_pos_of_mem hx
    rw [List.length_cons]
    omega
theorem pgEq_iff {p q : Pg} (hp : (p.map (·.1)).Nodup) (hq : (q.map (·.1)).Nodup) : pgEq p q = true ↔ GE p q := by
  unfold pgEq
  rw [Bool.and_eq_true, decide_eq_true_iff, List.all_eq_true]
  constructor
  · rintro ⟨h1, h2⟩
    have hsub : ∀ e ∈ p, e ∈ q := fun e he => getP_is (of_decide_eq_true (h2 e he))
    have hpn : p.Nodup := (List.pairwise_map.mp hp).imp fun {a b} h z => h (by rw [z])
    have hqn : q.Nodup := (List.pairwise_map.mp hq).imp fun {a b} h z => h (by rw [z])
    have hperm : p.Perm q := (List.perm_ext_iff_of_nodup hpn hqn).mpr fun e => ⟨hsub e, fun he => by
      by_cases z : e ∈ p
      · exact z
      · have := nodup_len (a := e :: p) (b := q) (List.nodup_cons.mpr ⟨z, hpn⟩) fun x hx => by
          rcases List.mem_cons.mp hx with rfl | hx
          · exact he
          · exact hsub x hx
        rw [List.length_cons] at this
        omega⟩
    exact fun n => getP_perm' hperm hp n
  · intro h
    have hperm := perm_get hp hq h
    exact ⟨hperm.length_eq, fun e he => decide_eq_true (by rw [← h]; exact getP_mem hp e he)⟩
theorem pgEq_congr {p q p' q' : Pg} (hp : (p.map (·.1)).Nodup) (hq : (q.map (·.1)).Nodup) (hp' : (p'.map (·.1)).Nodup) (hq' : (q'.map (·.1)).Nodup) (h1 : GE p p') (h2 : GE q q') : pgEq p q = pgEq p' q' := by
  rw [Bool.eq_iff_iff, pgEq_iff hp hq, pgEq_iff hp' hq']
  exact ⟨fun h n => by rw [← h1, ← h2]; exact h n, fun h n => by rw [h1, h2]; exact h n⟩

--CUT room
def nmS (ns : List Nm) : List V := ns.map fun n => V.str (ofL n)

/-! ### a room -/
def Rfs (hd : Addr) : List (Str × V) := putF "_hands" (.ref hd) []
def roomK (nm : List Nm) (ad : List Addr) : List (Key × V) := (nm.zip ad).map fun e => ((Sum.inr (ofL e.1) : Key), V.ref e.2)
def look (nm : List Nm) (ad : List Addr) (z : Nm) : Option Addr := ((nm.zip ad).find? fun e => decide (e.1 = z)).map (·.2)
theorem room_val (nm : List Nm) (ad : List Addr) (z : Nm) : valV (roomK nm ad) (.inr (ofL z)) = (look nm ad z).map V.ref := by
  unfold roomK look
  generalize nm.zip ad = l
  induction l with
  | nil => rfl
  | cons e l ih =>
    unfold valV at ih ⊢
    rw [List.map_cons, List.find?_cons, List.find?_cons]
    have hk : decide ((((Sum.inr (ofL e.1) : Key), V.ref e.2) : Key × V).1 = .inr (ofL z)) = decide (e.1 = z) := key_dec e.1 z
    rw [hk]
    by_cases c : e.1 = z
    · rw [decide_eq_true c]
      rfl
    · rw [decide_eq_false c]
      exact ih
theorem look_at : ∀ {nm : List Nm} {ad : List Addr} {i : Nat} {n : Nm} {x : Addr}, nm.Nodup → nm[i]? = some n → ad[i]? = some x → look nm ad n = some x
  | [], _, _, _, _, _, h, _ => by simp at h
  | a :: nm, [], _, _, _, _, _, h => by simp at h
  | a :: nm, b :: ad, 0, n, x, hn, h1, h2 => by
    obtain rfl := Option.some.inj h1
    obtain rfl := Option.some.inj h2
    unfold look
    rw [List.zip_cons_cons, List.find?_cons, decide_eq_true rfl]
    rfl
  | a :: nm, b :: ad, i + 1, n, x, hn, h1, h2 => by
    rw [List.nodup_cons] at hn
    have h1' : nm[i]? = some n := by simpa using h1
    have h2' : ad[i]? = some x := by simpa using h2
    have hne : a ≠ n := fun z => hn.1 (by rw [z]; exact List.mem_of_getElem? h1')
    have := look_at hn.2 h1' h2'
    unfold look at this ⊢
    rw [List.zip_cons_cons, List.find?_cons, decide_eq_false hne]
    exact this
theorem look_some : ∀ {nm : List Nm} {ad : List Addr} {n : Nm} {x : Addr}, look nm ad n = some x → ∃ i : Nat, nm[i]? = some n ∧ ad[i]? = some x
  | [], _, _, _, h => by
    unfold look at h
    simp at h
  | a :: nm, [], _, _, h => by
    unfold look at h
    simp at h
  | a :: nm, b :: ad, n, x, h => by
    unfold look at h
    rw [List.zip_cons_cons, List.find?_cons] at h
    by_cases c : a = n
    · rw [decide_eq_true c] at h
      exact ⟨0, congrArg some c, h⟩
    · rw [decide_eq_false c] at h
      obtain ⟨i, h1, h2⟩ := look_some (nm := nm) (ad := ad) h
      exact ⟨i + 1, by simpa using h1, by simpa using h2⟩
theorem look_none {nm : List Nm} {ad : List Addr} {n : Nm} (h : n ∉ nm) : look nm ad n = none := by
  cases c : look nm ad n with
  | none => rfl
  | some x =>
    obtain ⟨i, h1, _⟩ := look_some c
    exact absurd (List.mem_of_getElem? h1) h
theorem look_mem {nm : List Nm} {ad : List Addr} {n : Nm} (hl : ad.length = nm.length) (hn : nm.Nodup) (h : n ∈ nm) : ∃ (i : Nat) (x : Addr), nm[i]? = some n ∧ ad[i]? = some x ∧ look nm ad n = some x := by
  obtain ⟨i, hi, rfl⟩ := List.getElem_of_mem h
  have h1 : nm[i]? = some nm[i] := List.getElem?_eq_getElem hi
  have h2 : ad[i]? = some (ad[i]'(by omega)) := List.getElem?_eq_getElem _
  exact ⟨i, _, h1, h2, look_at hn h1 h2⟩
def RoomAt (CR : Addr) (H : Hp) (r hd : Addr) (nm : List Nm) (ad : List Addr) : Prop := (∃ dr, H r = some (.ins CR dr (Rfs hd))) ∧ H hd = some (.dK (roomK nm ad))
theorem rfs_hands (hd : Addr) : (Rfs hd).lookup ("_hands" : Str) = some (.ref hd) := by
  unfold Rfs
  rw [lookup_putF, if_pos rfl]
theorem rfs_no (hd : Addr) {m : Str} (h : ¬ m = "_hands") : (Rfs hd).lookup m = none := by
  unfold Rfs
  rw [lookup_putF, if_neg h]
  rfl
section
variable {CR : Addr} {H H' : Hp} {r hd : Addr} {nm : List Nm} {ad : List Addr}
theorem RoomAt.mono (e : Ex H H') (h : RoomAt CR H r hd nm ad) : RoomAt CR H' r hd nm ad := let ⟨⟨dr, a⟩, b⟩ := h; ⟨⟨dr, e _ _ a⟩, e _ _ b⟩
end
section
variable {P : Program} {w : World} {K : PySem.W.Frag} {mg : Str → Option Value} {base : Heap}
theorem look_isN {nm : List Nm} {ad : List Addr} {z : Nm} {x : Addr} (hg : ∀ n ∈ nm, GoodN n) (h : look nm ad z = some x) : nameOk (ofL z) = true := by
  obtain ⟨i, h1, _⟩ := look_some h
  exact nameOk_good (hg z (List.mem_of_getElem? h1))
def spRHand (K : PySem.W.Frag) (CR N : Addr) : Sp := fun vs H Q E => ∃ (r hd : Addr) (nm : List Nm) (ad : List Addr) (z : Nm), vs = [.ref r, .str (ofL z)] ∧ RoomAt CR H r hd nm ad ∧ (∀ n ∈ nm, GoodN n) ∧ z.length ≤ 3000 ∧ (∀ x, look nm ad z = some x → Ret (Is (.ref x)) H Q) ∧ (look nm ad z = none → ∀ H', Ex H H' → E (.ref N) none H')
theorem ev_dnl {d : Addr} {kvs : List (Key × V)} {z : Nm} {σ : L2.St} {H : Hp} {ty td : TE} (hy : Ev ty σ H (.str (ofL z))) (hd : Ev td σ H (.ref d)) (hk : H d = some (.dK kvs)) : Ev (tDNotIn ty td) σ H (.bl (!(valV kvs (.inr (ofL z))).isSome)) := fun H1 e Q q =>
  hy H1 e _ fun H2 e2 => hd H2 (e.trans e2) _ fun H3 e3 => ⟨d, valV kvs (.inr (ofL z)), rfl, .inl ⟨kvs, .inr (ofL z), .inl (((e.trans e2).trans e3) _ _ hk), rfl, rfl⟩, q H3 (e2.trans e3)⟩
theorem ev_dl {d : Addr} {kvs : List (Key × V)} {z : Nm} {σ : L2.St} {H : Hp} {ty td : TE} (hy : Ev ty σ H (.str (ofL z))) (hd : Ev td σ H (.ref d)) (hk : H d = some (.dK kvs)) : Ev (tDIn ty td) σ H (.bl (valV kvs (.inr (ofL z))).isSome) := fun H1 e Q q =>
  hy H1 e _ fun H2 e2 => hd H2 (e.trans e2) _ fun H3 e3 => ⟨d, valV kvs (.inr (ofL z)), rfl, .inl ⟨kvs, .inr (ofL z), .inl (((e.trans e2).trans e3) _ _ hk), rfl, rfl⟩, q H3 (e2.trans e3)⟩
theorem ev_dgetN {d a : Addr} {kvs : List (Key × V)} {z : Nm} {σ : L2.St} {H : Hp} {ty td : TE} (hd : Ev td σ H (.ref d)) (hy : Ev ty σ H (.str (ofL z))) (hk : H d = some (.dK kvs)) (hv : valV kvs (.inr (ofL z)) = some (.ref a)) : Ev (tDGet td ty) σ H (.ref a) := fun H1 e Q q =>
  hd H1 e _ fun H2 e2 => hy H2 (e.trans e2) _ fun H3 e3 => ⟨d, .ref a, rfl, .inl ⟨kvs, .inr (ofL z), .inl (((e.trans e2).trans e3) _ _ hk), rfl, hv.symm⟩, q H3 (e2.trans e3)⟩
theorem ok_Room_hand (T : Txt K mg) : FnOk P w K mg base (L2.CX P w) 2 T.a_Room_hand T.d_Room_hand ["self", "name"] (spRHand K T.c_Room T.c_NoName) := by
  refine T.h_Room_hand.F.okX sc_Room_hand (fun vs H Q E h => ?_) (fun cdv A outer s H vs Q E hr h => ?_)
  · obtain ⟨r, hd, nm, ad, z, rfl, _⟩ := h
    rfl
  · obtain ⟨r, hd, nm, ad, z, rfl, ⟨⟨dr, hr1⟩, hhd⟩, hg, hz, k1, k2⟩ := h
    refine ⟨_, (pss_cons (ps_if (PW.pt (pw_or (pt_not (pt_val (pe_call (ok_is_name T) (hr.mono (by decide)) rfl T.h_is_name.m T.h_is_name.F.kp T.h_is_name.b .nil pass0 (pa_cons (pv 1) pa_nil)))) (pw_or1 (pt_cmp (pc_dnotin (hu_of hr) (pv 1) (pe_fld (pv 0) rfl)))))) (pss_one (ps_raise rfl (takes_of rfl rfl rfl rfl) (pmk_own PySem.F.excBase_ValueError T.x_NoName.q T.x_NoName.g T.x_NoName.kp (raises_own T.x_NoName.b T.x_NoName.t) rfl))) pss_nil) (pss_one (ps_ret (pe_dget (hu_of hr) (pe_fld (pv 0) rfl) (pv 1) (fun _ _ => rfl))))), ?_⟩
    have hf : ∀ {H'}, Ex H H' → Ev (tFld K (tVar 0) "_hands") [some (.ref r), some (.str (ofL z))] H' (.ref hd) := fun e => ev_fld (ev_var rfl) (e _ _ hr1) T.cl_Room T.na_Room_hands (rfs_hands hd)
    refine q_when (b := !nameOk (ofL z) || !(valV (roomK nm ad) (.inr (ofL z))).isSome) (et_or (et_not (et_B (ev_call (ea_cons (ev_var rfl) ea_nil) (sv_name (by show z.length ≤ 30000; omega))))) fun _ => et_B (ev_dnl (ev_var rfl) (hf (Ex.refl _)) hhd)) (fun hb H1 e1 => ?_) (fun hb H1 e1 => ?_)
    · refine k2 ?_ H1 e1
      cases c : look nm ad z with
      | none => rfl
      | some x =>
        rw [room_val, c, look_isN hg c] at hb
        cases hb
    · rw [Bool.or_eq_false_iff, room_val] at hb
      cases c : look nm ad z with
      | none =>
        rw [c] at hb
        exact absurd hb.2 (by simp)
      | some x =>
        exact s_ret (v := .ref x) (ev_dgetN (hf e1) (ev_var rfl) (e1 _ _ hhd) (by rw [room_val, c]; rfl)) fun H2 e2 => k1 x c _ _ (e1.trans e2) rfl
theorem m_rhand {CR N : Addr} {σ : L2.St} {H : Hp} {ta tb : TE} {Q : VK} {E : XK} {r hd : Addr} {nm : List Nm} {ad : List Addr} {z : Nm} (h : Ev ta σ H (.ref r)) (h1 : Ev tb σ H (.str (ofL z))) (hR : RoomAt CR H r hd nm ad) (hg : ∀ n ∈ nm, GoodN n) (hz : z.length ≤ 3000)
    (k1 : ∀ x H1, look nm ad z = some x → Ex H H1 → Q (.ref x) H1) (k2 : look nm ad z = none → ∀ H1, Ex H H1 → E (.ref N) none H1) : tMeth CR "hand" (spRHand K CR N) [] E ta (tCons tb tNil) σ H Q := by
  obtain ⟨⟨dr, hr1⟩, hhd⟩ := id hR
  exact h H (Ex.refl H) _ fun H1 e1 => ⟨r, dr, _, rfl, e1 _ _ hr1, rfs_no hd (by decide +kernel), h1 H1 e1 _ fun H2 e2 => ⟨r, hd, nm, ad, z, rfl, hR.mono (e1.trans e2), hg, hz, fun x hx v H3 e3 hv => by
    obtain rfl : v = .ref x := hv
    exact k1 x H3 hx ((e1.trans e2).trans e3), fun hn H3 e3 => k2 hn H3 ((e1.trans e2).trans e3)⟩⟩
theorem ev_rhand {CR N : Addr} {σ : L2.St} {H : Hp} {ta tb : TE} {E : XK} {r hd : Addr} {nm : List Nm} {ad : List Addr} {z : Nm} {x : Addr} (h : Ev ta σ H (.ref r)) (h1 : Ev tb σ H (.str (ofL z))) (hR : RoomAt CR H r hd nm ad) (hg : ∀ n ∈ nm, GoodN n) (hx : look nm ad z = some x) : Ev (tMeth CR "hand" (spRHand K CR N) [] E ta (tCons tb tNil)) σ H (.ref x) := fun H1 e Q q =>
  m_rhand (K := K) (h.mono e) (h1.mono e) (hR.mono e) hg (by obtain ⟨i, a, _⟩ := look_some hx; have := (hg z (List.mem_of_getElem? a)).2.1; omega) (fun y H2 hy e2 => by
    rw [hx] at hy
    obtain rfl := Option.some.inj hy
    exact q H2 e2) (fun z => by rw [hx] at z; cases z)
end

--CUT roomb
def OddN (K : PySem.W.Frag) : VP := fun v H => ∃ t, argsN t = [v] ∧ preN K t H ∧ nmB t = false
instance {K : PySem.W.Frag} : Mono (OddN K) := ⟨fun e ⟨t, a, b, c⟩ => ⟨t, a, preN_mono e b, c⟩⟩
section
variable {K : PySem.W.Frag} {σ : L2.St} {H : Hp} {ta ti te : TE} {tl : TA} {P : VP}
theorem x_ixA [Mono P] {n : Nat} {i : Int} (h : EvXA tl σ H (AllP P n)) (hn : n ≤ 100000) (hi : Ev ti σ H (.int i)) (h0 : 0 ≤ i) (h1 : i < n) : EvX (tOp (rIxL K) (tLst tl) ti) σ H P := fun H1 e Q q =>
  x_lstA h hn H1 e _ fun v H2 e2 ⟨p, vs, ev, _, hp, hl, hall⟩ => hi H2 (e.trans e2) _ fun H3 e3 => by
    subst ev
    have hlt : i.toNat < vs.length := by omega
    refine ⟨p, vs, i, vs[i.toNat], rfl, rfl, sq_of (e3 _ _ hp), atI_of h0 (List.getElem?_eq_getElem hlt), q _ H3 (e2.trans e3) (Mono.mono e3 (hall _ (List.getElem_mem hlt)))⟩
theorem oddN_str {z : Str} (hl : z.cps.toList.length ≤ 30000) (h : nameOk z = false) : ∀ H1, Ex H H1 → OddN K (.str z) H1 := fun _ _ => ⟨.inl z, rfl, hl, h⟩
theorem oddN_ty {v : V} {t : String} (h : TyX K H v (.type t)) (ht : kitB t "str" = some false) : ∀ H1, Ex H H1 → OddN K v H1 := fun _ e => ⟨.inr (v, t), rfl, ⟨tyx_mono e h, ht⟩, rfl⟩
theorem oddN_list (h : EvA tl σ H [v]) : EvX (tLst tl) σ H (OddN K) := (x_lst h).imp fun v H1 _ ⟨p, ev, _, hp⟩ => by
  subst ev
  exact ⟨.inr (.ref p, "list"), rfl, ⟨.base (.lst hp), by decide +kernel⟩, rfl⟩
end

/-! ### a room made -/
section
variable {P : Program} {w : World} {K : PySem.W.Frag} {mg : Str → Option Value} {base : Heap}
def spRInit (K : PySem.W.Frag) (CR CH N : Addr) : Sp := fun vs H Q E => ∃ (r dr a : Addr) (pr : List Nm) (tl : List V), vs = [.ref r, .ref a] ∧ H r = some (.ins CR dr []) ∧ SqL K H a (nmS pr ++ tl) ∧ pr.length ≤ 1000 ∧ pr.Nodup ∧ (∀ n ∈ pr, GoodN n) ∧
  ((tl = [] ∧ ∀ H' hd ad, ExX r H H' → RoomAt CR H' r hd pr ad → H hd = none → ad.length = pr.length → ad.Nodup → (∀ x ∈ ad, H x = none) → (∀ (i : Nat) n x, pr[i]? = some n → ad[i]? = some x → HandAt K CH H' x n [] ∧ (∀ b o, H b = some o → HandOff CH H' x n b) ∧ HandOff CH H' x n hd) → Q .non H') ∨
   (∃ v rest, tl = v :: rest ∧ (OddN K v H ∨ ∃ n ∈ pr, v = .str (ofL n)) ∧ ∀ H', ExX r H H' → E (.ref N) none H'))
theorem roomK_snoc {nm : List Nm} {ad : List Addr} {n : Nm} {x : Addr} (hl : ad.length = nm.length) : roomK (nm ++ [n]) (ad ++ [x]) = roomK nm ad ++ [(.inr (ofL n), .ref x)] := by
  unfold roomK
  rw [List.zip_append hl.symm, List.map_append]
  rfl
theorem put_new {kvs : List (Key × V)} {k : Key} {v : V} (h : valV kvs k = none) : putK kvs k v = kvs ++ [(k, v)] := by
  unfold putK
  rw [valV_any, h, if_neg (by simp)]
theorem HandAt.upDict {C x d : Addr} {H : Hp} {n : Nm} {p : Pg} {kvs ls : List (Key × V)} (hd : H d = some (.dK kvs)) (h : HandAt K C H x n p) (hoff : HandOff C H x n d) : HandAt K C (upd H d (.dK ls)) x n p := h.clr hd hoff
theorem HandOff.to {C x b : Addr} {H H' : Hp} {n : Nm} {dx pd : Addr} (h : HandOff C H x n b) (hx : H x = some (.ins C dx (Hfs n pd))) (hx' : H' x = some (.ins C dx (Hfs n pd))) : HandOff C H' x n b := fun dx2 pd2 h2 => by
  rw [hx'] at h2
  injection h2 with h2
  injection h2 with _ _ h2
  obtain rfl := hfs_inj h2
  exact h dx _ hx
theorem HandOff.mono {C x b : Addr} {H H' : Hp} {n : Nm} {p : Pg} (h : HandOff C H x n b) (hh : HandAt K C H x n p) (e : Ex H H') : HandOff C H' x n b := by
  obtain ⟨dx, pd, hx, _⟩ := hh
  exact h.to hx (e _ _ hx)
theorem ty_exx {C x dx : Addr} {fs : List (Str × V)} {H H' : Hp} {v : V} {t : String} (hx : H x = some (.ins C dx fs)) (e : ExX x H H') (h : TyX K H v (.type t)) : TyX K H' v (.type t) := by
  cases h with
  | base h =>
    cases h with
    | non => exact .base .non
    | bl b => exact .base (.bl b)
    | int i => exact .base (.int i)
    | str s => exact .base (.str s)
    | flt b => exact .base (.flt b)
    | lst h => exact .base (.lst (e.at hx h (by intro _ _ _ z; cases z)))
    | frz h => exact .base (.frz (e.at hx h (by intro _ _ _ z; cases z)))
    | tup h => exact .base (.tup (e.at hx h (by intro _ _ _ z; cases z)))
    | dK h => exact .base (.dK (e.at hx h (by intro _ _ _ z; cases z)))
    | dT h => exact .base (.dT (e.at hx h (by intro _ _ _ z; cases z)))
  | byt b => exact .byt b
  | set h => exact .set (e.at hx h (by intro _ _ _ z; cases z))
  | kList h c => exact .kList h c
  | kTuple h c => exact .kTuple h c
  | kDict h c => exact .kDict h c
  | fTuple h => exact .fTuple (e.at hx h (by intro _ _ _ z; cases z))
  | fDict h => exact .fDict (e.at hx h (by intro _ _ _ z; cases z))
theorem rfs_put (hd : Addr) : putF "_hands" (.ref hd) [] = Rfs hd := rfl
theorem ok_Room_init (T : Txt K mg) : FnOk P w K mg base (L2.CX P w) 4 T.a_Room_init T.d_Room_init ["self", "names"] (spRInit K T.c_Room T.c_Hand T.c_NoName) := by
  refine T.h_Room_init.F.okX sc_Room_init (fun vs H Q E h => ?_) (fun cdv A outer s H vs Q E hr h => ?_)
  · obtain ⟨r, dr, a, pr, tl, rfl, _⟩ := h
    rfl
  · obtain ⟨r, dr, a, pr, tl, rfl, hr1, ha, hp1, hpn, hpg, hcase⟩ := h
    refine ⟨_, (pss_cons (ps_fld (pv 0) pe_dnewK rfl) (pss_one (ps_for (passes_of rfl) rfl (pi_list (pv 1)) (pg_name (i := 2) sc_Room_init.nd rfl (by first | exact Or.inl rfl | exact Or.inr rfl)) (pss_cons (ps_set (i := 3) sc_Room_init.nd rfl (by first | exact Or.inl rfl | exact Or.inr rfl) (pe_make T.mk_Hand (ok_Hand_init T) (hr.mono (by decide)) (by rfl) T.g_Hand T.h_Hand_init.b .nil (passes_call (E := E) (takes_of rfl rfl rfl rfl) (fun _ _ _ _ h => h)) (pa_cons (pv 2) pa_nil))) (pss_cons (ps_if (pt_cmp (pc_din (hu_of hr) (pv 2) (pe_fld (pv 0) rfl))) (pss_one (ps_raise rfl (takes_of rfl rfl rfl rfl) (pmk_own PySem.F.excBase_ValueError T.x_NoName.q T.x_NoName.g T.x_NoName.kp (raises_own T.x_NoName.b T.x_NoName.t) rfl))) pss_nil) (pss_one (ps_dput (hu_of hr) (pe_fld (pv 0) rfl) (pv 2) (pv 3) rfl))))))), ?_⟩
    refine q_fld (K := K) (P := Nw H (.dK [])) x_dnew (ev_var rfl) hr1 T.cl_Room T.na_Room_hands (by decide) fun v H1 e1 hv => ?_
    obtain ⟨hd, rfl, hd0, hd1⟩ := hv
    rw [rfs_put]
    have hrd : hd ≠ r := fun z => by rw [z, hr1] at hd0; cases hd0
    have hx2 : upd H1 r (.ins T.c_Room dr (Rfs hd)) r = some (.ins T.c_Room dr (Rfs hd)) := upd_same
    have hd2 : upd H1 r (.ins T.c_Room dr (Rfs hd)) hd = some (.dK []) := by rw [upd_ne hrd]; exact hd1
    have eX2 : ExX r H (upd H1 r (.ins T.c_Room dr (Rfs hd))) := (ExX.of e1).trans ExX.upd
    generalize upd H1 r (.ins T.c_Room dr (Rfs hd)) = H2 at hx2 hd2 eX2
    have ha2 := eX2.l hr1 ha
    have hlen : (nmS pr ++ tl).length = pr.length + tl.length := by rw [List.length_append]; unfold nmS; rw [List.length_map]
    have hfld : ∀ {H' : Hp} {σ : L2.St}, H' r = some (.ins T.c_Room dr (Rfs hd)) → σ[0]? = some (some (.ref r)) → Ev (tFld K (tVar 0) "_hands") σ H' (.ref hd) := fun h hσ => ev_fld (ev_var hσ) h T.cl_Room T.na_Room_hands (rfs_hands hd)
    refine s_forLn (K := K) (a := a) (xs := nmS pr ++ tl) (ev_var rfl) ha2 (fun i σ' H' => i ≤ pr.length ∧ ∃ s2 s3 ad, σ' = [some (.ref r), some (.ref a), s2, s3] ∧ ExX r H H' ∧ SqL K H' a (nmS pr ++ tl) ∧ H' r = some (.ins T.c_Room dr (Rfs hd)) ∧ H' hd = some (.dK (roomK (pr.take i) ad)) ∧ ad.length = i ∧ ad.Nodup ∧ (∀ x ∈ ad, H x = none ∧ x ≠ r ∧ ∃ o, H' x = some o) ∧ ∀ (j : Nat) n x, pr[j]? = some n → ad[j]? = some x → HandAt K T.c_Hand H' x n [] ∧ (∀ b o, H b = some o → HandOff T.c_Hand H' x n b) ∧ HandOff T.c_Hand H' x n hd)
      (fun H3 e3 => ⟨Nat.zero_le _, none, none, [], rfl, fun b o hb hbr => e3 _ _ (eX2 b o hb hbr), ex_l e3 ha2, e3 _ _ hx2, e3 _ _ hd2, rfl, List.nodup_nil, (fun x hx => by cases hx), fun j n x _ hx => by simp at hx⟩) (fun i σ' H' _ ⟨_, _, _, _, _, _, z, _⟩ => z) ?_ ?_
    · rintro i v σ' H3 hv ⟨hile, s2, s3, ad, rfl, eX, hsl, hr3, hhd3, hal, han, hnew, hall⟩
      by_cases hi : i < pr.length
      · have hpi : pr[i]? = some pr[i] := List.getElem?_eq_getElem hi
        have hvi : v = .str (ofL pr[i]) := by
          rw [List.getElem?_append_left (by unfold nmS; rw [List.length_map]; exact hi)] at hv
          unfold nmS at hv
          rw [List.getElem?_map, hpi] at hv
          exact (Option.some.inj hv).symm
        subst hvi
        generalize hn : pr[i] = n at hpi
        have hgn := hpg n (List.mem_of_getElem? hpi)
        refine qx_asg (x_makeHand (T := T) (n := n) (ev_var rfl) (nameOk_good hgn)) ?_
        rintro v H4 e4 ⟨y, rfl, hy0, hy, hyoff⟩
        have hnotin : n ∉ pr.take i := fun hm => by
          obtain ⟨j, hj⟩ := List.getElem_of_mem hm
          obtain ⟨hj1, hj2⟩ := hj
          rw [List.length_take] at hj1
          rw [List.getElem_take] at hj2
          have hp := List.pairwise_iff_getElem.mp hpn j i (by omega) hi (by omega)
          exact hp (by rw [hj2, hn])
        have hlk : valV (roomK (pr.take i) ad) (.inr (ofL n)) = none := by rw [room_val, look_none hnotin]; rfl
        refine q_when (b := false) (et_B (ev_is (ev_dl (ev_var rfl) (hfld (e4 _ _ hr3) rfl) (e4 _ _ hhd3)) (by rw [hlk]; rfl))) (fun hb _ _ => by cases hb) (fun _ H5 e5 => ?_)
        have e35 := e4.trans e5
        have hlz : (roomK (pr.take i) ad).length ≤ 1000 := by
          unfold roomK
          rw [List.length_map, List.length_zip, hal]
          omega
        refine s_dput (k := .inr (ofL n)) (ev_var rfl) (hfld (e35 _ _ hr3) rfl) (ev_var rfl) (e35 _ _ hhd3) (by omega) fun H6 e6 => ?_
        have e36 := e35.trans e6
        have hhd6 := e36 _ _ hhd3
        have hyr : y ≠ r := fun z => by rw [z, hr3] at hy0; cases hy0
        have hy6 := (hy.mono e5).mono e6
        have hya : y ∉ ad := fun hm => by
          obtain ⟨_, _, o, ho⟩ := hnew y hm
          rw [hy0] at ho
          cases ho
        have hyhd : y ≠ hd := fun z => by rw [z, hhd3] at hy0; cases hy0
        have hrhd : r ≠ hd := Ne.symm hrd
        refine ⟨hi, _, _, ad ++ [y], rfl, ?_, ?_, ?_, ?_, ?_, nd_snoc han hya, ?_, ?_⟩
        · exact fun b o hb hbr => by
            rw [upd_ne (fun z => by rw [z, hd0] at hb; cases hb)]
            exact e36 _ _ (eX b o hb hbr)
        · have := ex_l e36 hsl
          rcases this with (h | ⟨o, h⟩) | h
          · exact .inl (.inl (by rw [upd_ne (fun z => by rw [z, hhd6] at h; cases h)]; exact h))
          · exact .inl (.inr ⟨o, by rw [upd_ne (fun z => by rw [z, hhd6] at h; cases h)]; exact h⟩)
          · exact .inr h
        · rw [upd_ne hrhd]
          exact e36 _ _ hr3
        · have htk : pr.take (i + 1) = pr.take i ++ [n] := by rw [List.take_succ, hpi]; rfl
          rw [upd_same, put_new hlk, htk, roomK_snoc (by rw [hal, List.length_take]; omega)]
        · rw [List.length_append, hal]
          rfl
        · intro x hx
          rcases List.mem_append.mp hx with hx | hx
          · obtain ⟨h1, h2, o, h3⟩ := hnew x hx
            refine ⟨h1, h2, ?_⟩
            by_cases z : x = hd
            · exact ⟨_, by rw [z]; exact upd_same⟩
            · exact ⟨o, by rw [upd_ne z]; exact e36 _ _ h3⟩
          · obtain rfl := List.mem_singleton.mp hx
            refine ⟨?_, hyr, ?_⟩
            · cases c : H x with
              | none => rfl
              | some o =>
                rw [eX x o c hyr] at hy0
                cases hy0
            · obtain ⟨dx, pd, h1, _⟩ := hy6
              exact ⟨_, by rw [upd_ne hyhd]; exact h1⟩
        · intro j m x hj hx
          by_cases hjl : j < ad.length
          · rw [List.getElem?_append_left hjl] at hx
            obtain ⟨h1, h2, h3⟩ := hall j m x hj hx
            have h16 := h1.mono e36
            have h36 := h3.mono h1 e36
            obtain ⟨dx, pd, hxi, _⟩ := id h16
            have hxhd : x ≠ hd := fun z => by rw [z, hhd6] at hxi; cases hxi
            have hxu : upd H6 hd (.dK (putK (roomK (pr.take i) ad) (.inr (ofL n)) (.ref y))) x = some (.ins T.c_Hand dx (Hfs m pd)) := by rw [upd_ne hxhd]; exact hxi
            exact ⟨h16.upDict hhd6 h36, fun b o hb => ((h2 b o hb).mono h1 e36).to hxi hxu, h36.to hxi hxu⟩
          · have hj2 : j = ad.length := by
              have := (List.getElem?_eq_some_iff.mp hx).1
              rw [List.length_append, List.length_singleton] at this
              omega
            subst hj2
            rw [List.getElem?_append_right (Nat.le_refl _), Nat.sub_self] at hx
            obtain rfl : y = x := Option.some.inj hx
            rw [hal, hpi] at hj
            obtain rfl := Option.some.inj hj
            obtain ⟨dx, pd, hxi, _⟩ := id hy6
            have h36 : HandOff T.c_Hand H6 y n hd := (hyoff hd _ hhd3).mono hy (e5.trans e6)
            have hxu : upd H6 hd (.dK (putK (roomK (pr.take i) ad) (.inr (ofL n)) (.ref y))) y = some (.ins T.c_Hand dx (Hfs n pd)) := by rw [upd_ne hyhd]; exact hxi
            refine ⟨hy6.upDict hhd6 h36, fun b o hb => ?_, h36.to hxi hxu⟩
            by_cases z : b = r
            · subst z
              exact ((hyoff b _ hr3).mono hy (e5.trans e6)).to hxi hxu
            · exact ((hyoff b o (eX b o hb z)).mono hy (e5.trans e6)).to hxi hxu
      · have hie : i = pr.length := by omega
        subst hie
        rw [List.getElem?_append_right (by unfold nmS; rw [List.length_map]; exact Nat.le_refl _)] at hv
        rcases hcase with ⟨htl, _⟩ | ⟨u, rest, htl, hbad, k2⟩
        · rw [htl] at hv
          cases hv
        · rw [htl] at hv
          have h0 : pr.length - (nmS pr).length = 0 := by unfold nmS; rw [List.length_map]; omega
          rw [h0] at hv
          have hvu : u = v := Option.some.inj hv
          subst hvu
          rcases hbad with ⟨t, ht, hp, hno⟩ | ⟨n, hnm, rfl⟩
          · refine ⟨u, rfl, fun x dx hx hdx hne => ?_⟩
            have eU : Ex H3 (upd (upd H3 dx (.own x)) x (.ins T.c_Hand dx [])) := (Ex.new hdx).trans (Ex.new (by rw [upd_ne (Ne.symm hne)]; exact hx))
            have hp3 : preN K t H3 := by
              rcases t with z | ⟨v2, t2⟩
              · exact hp
              · refine ⟨?_, hp.2⟩
                exact ty_exx hr1 eX hp.1
            refine ⟨x, dx, t, by rw [ht]; rfl, upd_same, preN_mono eU hp3, (fun z ez hok => by subst ez; exact absurd hok (by rw [show nameOk z = false from hno]; decide)), fun _ H' e' => k2 H' (eX.trans (ExX.of (eU.trans e')))⟩
          · have hgn := hpg n hnm
            refine qx_asg (x_makeHand (T := T) (n := n) (ev_var rfl) (nameOk_good hgn)) ?_
            rintro v H4 e4 ⟨y, rfl, hy0, hy, hyoff⟩
            obtain ⟨j, x, h1, h2, h3⟩ := look_mem hal hpn hnm
            rw [List.take_length] at hhd3
            refine q_when (b := true) (et_B (ev_is (ev_dl (ev_var rfl) (hfld (e4 _ _ hr3) rfl) (e4 _ _ hhd3)) (by rw [room_val, h3]; rfl))) (fun _ H5 e5 => ?_) (fun hb _ _ => by cases hb)
            exact k2 H5 (eX.trans (ExX.of (e4.trans e5)))
    · rintro σ' H3 ⟨hile, s2, s3, ad, rfl, eX, hsl, hr3, hhd3, hal, han, hnew, hall⟩
      rw [hlen] at hile hal hhd3
      have ht0 : tl = [] := List.length_eq_zero_iff.mp (by omega)
      rcases hcase with ⟨_, k1⟩ | ⟨v, rest, htl, _⟩
      · rw [ht0, List.length_nil, Nat.add_zero] at hal hhd3
        rw [List.take_length] at hhd3
        exact k1 H3 hd ad eX ⟨⟨dr, hr3⟩, hhd3⟩ hd0 hal han (fun x hx => (hnew x hx).1) hall
      · rw [htl] at ht0
        cases ht0
end

--CUT roomc
/-! ### two that meet -/
def Ex2 (x y : Addr) (H H' : Hp) : Prop := ∀ a o, H a = some o → a ≠ x → a ≠ y → H' a = some o
def cnt (p q : Pg) : Nat := (lackP p q (q.map (·.1))).length
theorem lackP_congr {p p' q : Pg} {ns : List Nm} (h : GE p p') : lackP p q ns = lackP p' q ns := by
  unfold lackP
  congr 1
  funext n
  rw [h n]
theorem lackP_congr2 {p q q' : Pg} {ns : List Nm} (h : GE q q') : lackP p q ns = lackP p q' ns := by
  unfold lackP
  congr 1
  funext n
  rw [h n]
theorem ge_names {q q' : Pg} (hq : (q.map (·.1)).Nodup) (hq' : (q'.map (·.1)).Nodup) (h : GE q q') : (q.map (·.1)).Perm (q'.map (·.1)) := (perm_get hq hq' h).map _
theorem cnt_congr {p p' q q' : Pg} (hq : (q.map (·.1)).Nodup) (hq' : (q'.map (·.1)).Nodup) (h1 : GE p p') (h2 : GE q q') : cnt p q = cnt p' q' := by
  unfold cnt
  rw [lackP_congr h1, lackP_congr2 h2]
  exact ((ge_names hq hq' h2).filterMap _).length_eq
theorem joinG_self {p r : Pg} (hp : PgPos p) (h : ∀ m, getP r m = joinG p p m) : GE r p := fun m => by rw [h, joinG_cmb hp, cmb_self]
section
variable {P : Program} {w : World} {K : PySem.W.Frag} {mg : Str → Option Value} {base : Heap}
def spMeet (K : PySem.W.Frag) (CR CH N F : Addr) : Sp := fun vs H Q E => ∃ (r hd : Addr) (nm : List Nm) (ad : List Addr) (z1 z2 : Nm), vs = [.ref r, .str (ofL z1), .str (ofL z2)] ∧ RoomAt CR H r hd nm ad ∧ (∀ n ∈ nm, GoodN n) ∧ z1.length ≤ 3000 ∧ z2.length ≤ 3000 ∧
  ((look nm ad z1 = none ∨ look nm ad z2 = none) → ∀ H', Ex H H' → E (.ref N) none H') ∧
  ∀ x1 x2, look nm ad z1 = some x1 → look nm ad z2 = some x2 → ∃ p1 p2, HandAt K CH H x1 z1 p1 ∧ HandAt K CH H x2 z2 p2 ∧ p1.length + p2.length ≤ 400 ∧ (x1 = x2 → z1 = z2 ∧ p1 = p2) ∧
    (¬ (reachB ((getP p1 z1).getD (0, 0)) ((getP p2 z1).getD (0, 0)) = true ∧ reachB ((getP p2 z2).getD (0, 0)) ((getP p1 z2).getD (0, 0)) = true) → ∀ H', Ex H H' → E (.ref F) none H') ∧
    ((reachB ((getP p1 z1).getD (0, 0)) ((getP p2 z1).getD (0, 0)) = true ∧ reachB ((getP p2 z2).getD (0, 0)) ((getP p1 z2).getD (0, 0)) = true) → ∀ H' f1 f2 t, Ex2 x1 x2 H H' → HandAt K CH H' x1 z1 f1 → HandAt K CH H' x2 z2 f2 → (∀ m, getP f1 m = cmb (getP p1 m) (getP p2 m)) → (∀ m, getP f2 m = cmb (getP p1 m) (getP p2 m)) → (∀ b o, H b = some o → HandOff CH H' x1 z1 b ∧ HandOff CH H' x2 z2 b) → SqT K H' t [.int (cnt p1 p2 : Int), .int (cnt p2 p1 : Int)] → Q (.ref t) H')
theorem ok_Room_meet (T : Txt K mg) : FnOk P w K mg base (L2.CX P w) 4 T.a_Room_meet T.d_Room_meet ["self", "one", "other"] (spMeet K T.c_Room T.c_Hand T.c_NoName T.c_Forged) := by
  refine T.h_Room_meet.F.okX sc_Room_meet (fun vs H Q E h => ?_) (fun cdv A outer s H vs Q E hr h => ?_)
  · obtain ⟨r, hd, nm, ad, z1, z2, rfl, _⟩ := h
    rfl
  · obtain ⟨r, hd, nm, ad, z1, z2, rfl, hR, hg, hz1, hz2, k1, k2⟩ := h
    refine ⟨_, (pss_cons (ps_par (i := 3) (j := 4) rfl sc_Room_meet.nd rfl rfl (by decide) rfl rfl (pa_cons (pe_meth (pv 0) T.cl_Room T.h_Room_hand.m (ok_Room_hand T) (hr.mono (by decide)) T.h_Room_hand.b .nil (passes_call (E := E) (takes_of rfl rfl rfl rfl) (fun _ _ _ _ h => h)) (pa_cons (pv 1) pa_nil)) (pa_cons (pe_meth (pv 0) T.cl_Room T.h_Room_hand.m (ok_Room_hand T) (hr.mono (by decide)) T.h_Room_hand.b .nil (passes_call (E := E) (takes_of rfl rfl rfl rfl) (fun _ _ _ _ h => h)) (pa_cons (pv 2) pa_nil)) pa_nil)) rfl) (pss_cons (ps_par (i := 5) (j := 6) rfl sc_Room_meet.nd rfl rfl (by decide) rfl rfl (pa_cons (pe_meth0 (pv 3) T.cl_Hand T.h_Hand_page.m (ok_Hand_page T) (hr.mono (by decide)) T.h_Hand_page.b .nil pass0) (pa_cons (pe_meth0 (pv 4) T.cl_Hand T.h_Hand_page.m (ok_Hand_page T) (hr.mono (by decide)) T.h_Hand_page.b .nil pass0) pa_nil)) rfl) (pss_cons (ps_if (PW.pt (pw_or (pt_not (pt_val (pe_meth (pv 3) T.cl_Hand T.h_Hand_trusts.m (ok_Hand_trusts T) (hr.mono (by decide)) T.h_Hand_trusts.b .nil pass0 (pa_cons (pv 6) pa_nil)))) (pw_or1 (pt_not (pt_val (pe_meth (pv 4) T.cl_Hand T.h_Hand_trusts.m (ok_Hand_trusts T) (hr.mono (by decide)) T.h_Hand_trusts.b .nil pass0 (pa_cons (pv 5) pa_nil))))))) (pss_one (ps_raise rfl (takes_of rfl rfl rfl rfl) (pmk_own PySem.F.excBase_ValueError T.x_Forged.q T.x_Forged.g T.x_Forged.kp (raises_own T.x_Forged.b T.x_Forged.t) rfl))) pss_nil) (pss_one (ps_ret (pe_tup (pa_cons (pe_meth (pv 3) T.cl_Hand T.h_Hand_learn.m (ok_Hand_learn T) (hr.mono (by decide)) T.h_Hand_learn.b .nil pass0 (pa_cons (pv 6) pa_nil)) (pa_cons (pe_meth (pv 4) T.cl_Hand T.h_Hand_learn.m (ok_Hand_learn T) (hr.mono (by decide)) T.h_Hand_learn.b .nil pass0 (pa_cons (pv 5) pa_nil)) pa_nil)))))))), ?_⟩
    refine m_rhand (K := K) (ev_var rfl) (ev_var rfl) hR hg hz1 (fun x1 H1 l1 e1 => ?_) (fun l1 H1 e1 => k1 (.inl l1) H1 e1)
    refine m_rhand (K := K) (ev_var rfl) (ev_var rfl) (hR.mono e1) hg hz2 (fun x2 H2 l2 e2 => ?_) (fun l2 H2 e2 => k1 (.inr l2) H2 (e1.trans e2))
    obtain ⟨p1, p2, hh1, hh2, hl, hsame, kF, k3⟩ := k2 x1 x2 l1 l2
    refine ⟨_, _, rfl, ?_⟩
    have e3 := e1.trans e2
    refine (x_handPage (T := T) (ev_var rfl) (hh1.mono e3)) H2 (Ex.refl H2) _ fun v H3 e23 hv => ?_
    obtain ⟨d1, rfl, hd10, hd1'⟩ := hv
    refine (x_handPage (T := T) (ev_var rfl) ((hh2.mono e3).mono e23)) H3 (Ex.refl H3) _ fun v H4 e34 hv => ?_
    obtain ⟨d2, rfl, hd20, hd2⟩ := hv
    refine ⟨_, _, rfl, ?_⟩
    have hd1 := hd1'.mono e34
    have e04 := (e3.trans e23).trans e34
    have hh14 := hh1.mono e04
    have hh24 := hh2.mono e04
    dsimp only
    refine q_when (b := !reachB ((getP p1 z1).getD (0, 0)) ((getP p2 z1).getD (0, 0)) || !reachB ((getP p2 z2).getD (0, 0)) ((getP p1 z2).getD (0, 0))) (et_or (et_not (et_B (x_trusts (T := T) (ev_var rfl) (ev_var rfl) hh14 hd2.rd))) fun _ => et_not (et_B (x_trusts (T := T) (ev_var rfl) (ev_var rfl) hh24 hd1.rd))) (fun hb H5 e5 => ?_) (fun hb H5 e5 => ?_)
    · refine kF (fun z => ?_) H5 (e04.trans e5)
      rw [z.1, z.2] at hb
      cases hb
    have hT : (reachB ((getP p1 z1).getD (0, 0)) ((getP p2 z1).getD (0, 0)) = true ∧ reachB ((getP p2 z2).getD (0, 0)) ((getP p1 z2).getD (0, 0)) = true) := by
      rw [Bool.or_eq_false_iff, Bool.not_eq_false', Bool.not_eq_false'] at hb
      exact hb
    have hh15 := hh14.mono e5
    have hh25 := hh24.mono e5
    have hd15 := hd1.mono e5
    have hd25 := hd2.mono e5
    have e05 := e04.trans e5
    obtain ⟨dx1, pd1, hx1, ⟨_, _, _, hpn1, _⟩, hpos1, _, _⟩ := id hh15
    obtain ⟨dx2, pd2, hx2, ⟨_, _, _, hpn2, _⟩, hpos2, _, _⟩ := id hh25
    refine ⟨.ref x1, rfl, x1, dx1, _, rfl, hx1, hfs_no z1 pd1 (by decide +kernel) (by decide +kernel), .ref d2, rfl, x1, d2, z1, p1, p2, rfl, hh15, hd25.rd, hpos2, by omega, ?_⟩
    intro H6 r1 eX1 hr1 off1 hg1 _
    have hd16 := eX1.pg hx1 hd15
    have hsec : ∃ p2', HandAt K T.c_Hand H6 x2 z2 p2' ∧ GE p2' p2 ∧ p2'.length ≤ 400 := by
      by_cases hx : x1 = x2
      · obtain ⟨hz, hp⟩ := hsame hx
        subst hx hz hp
        have hge := joinG_self hpos1 hg1
        obtain ⟨_, _, _, ⟨_, _, _, hrn, _⟩, _⟩ := id hr1
        have := (ge_names hrn hpn1 hge).length_eq
        rw [List.length_map, List.length_map] at this
        exact ⟨r1, hr1, hge, by omega⟩
      · exact ⟨p2, eX1.hand hx1 (fun z => hx z.symm) hh25, fun _ => rfl, by omega⟩
    obtain ⟨p2', hh26, hge2, hl2⟩ := hsec
    obtain ⟨dx2', pd2', hx26, ⟨_, _, _, hpn2', _⟩, hpos2', _, _⟩ := id hh26
    refine ⟨.ref x2, rfl, x2, dx2', _, rfl, hx26, hfs_no z2 pd2' (by decide +kernel) (by decide +kernel), .ref d1, rfl, x2, d1, z2, p2', p1, rfl, hh26, hd16.rd, hpos1, by omega, ?_⟩
    intro H7 r2 eX2 hr2 off2 hg2 _
    have hf2 : ∀ m, getP r2 m = cmb (getP p1 m) (getP p2 m) := fun m => by rw [hg2, joinG_cmb hpos1, hge2 m, cmb_comm]
    have hf1 : ∃ f1, HandAt K T.c_Hand H7 x1 z1 f1 ∧ (∀ m, getP f1 m = cmb (getP p1 m) (getP p2 m)) ∧ ∀ b o, H b = some o → HandOff T.c_Hand H7 x1 z1 b := by
      by_cases hx : x1 = x2
      · obtain ⟨hz, hp⟩ := hsame hx
        subst hx hz hp
        refine ⟨r2, hr2, hf2, fun b o hb => ?_⟩
        by_cases hbx : b = x1
        · subst hbx
          exact off2 b _ hx26
        · exact off2 b o (eX1 _ _ (e05 _ _ hb) hbx)
      · refine ⟨r1, eX2.hand hx26 hx hr1, fun m => by rw [hg1, joinG_cmb hpos2], fun b o hb => ?_⟩
        obtain ⟨dx, pd, h1, _⟩ := id hr1
        exact (off1 b o (e05 _ _ hb)).to h1 (eX2 _ _ h1 hx)
    obtain ⟨f1, h1, h2, h3⟩ := hf1
    refine ⟨Nat.le_of_ble_eq_true rfl, fun t2 ht2 => ?_⟩
    have e7 : Ex H7 (upd H7 t2 (.tup [.int (cnt p1 p2 : Int), .int (cnt p2' p1 : Int)])) := Ex.new ht2
    have hc2 : cnt p2' p1 = cnt p2 p1 := by
      unfold cnt
      rw [lackP_congr hge2]
    refine k3 hT _ f1 r2 t2 (fun b o hb hb1 hb2 => e7 _ _ (eX2 _ _ (eX1 _ _ (e05 _ _ hb) hb1) hb2)) (h1.mono e7) (hr2.mono e7) h2 hf2 (fun b o hb => ⟨(h3 b o hb).mono h1 e7, ?_⟩) (st_of (by rw [← hc2]; exact upd_same))
    refine HandOff.mono ?_ hr2 e7
    by_cases hbx : b = x1
    · subst hbx
      obtain ⟨dx, pd, hq, _⟩ := id hr1
      exact off2 b _ hq
    · exact off2 b o (eX1 _ _ (e05 _ _ hb) hbx)
end
/-! ### settled -/
section
variable {K : PySem.W.Frag} {σ : L2.St} {H H' : Hp} {te td : TE}
/-- [e for v in d.values()], each a new page -/
theorem x_lockVals {d : Addr} {kvs : List (Key × V)} {ps : List Pg} {i : Nat} {vs : List Nat} (hd : H d = some (.dK kvs)) (hl : kvs.length = ps.length) (hz : kvs.length ≤ 30000) (h : ∀ H0 od H1, Ex H H0 → Ex (upd H0 d (.frz od (.dK kvs))) H1 → Ev td σ H1 (.ref d)) (hw : ∀ x, wipe ((wipe σ vs).set i (some x)) vs = wipe σ vs)
    (he : ∀ (m : Nat) (k : Key) (v : V) (p : Pg) H0 od H1, kvs[m]? = some (k, v) → ps[m]? = some p → Ex H H0 → Ex (upd H0 d (.frz od (.dK kvs))) H1 → EvX te ((wipe σ vs).set i (some v)) H1 (CpV K H1 p)) :
    EvX (tLockE (tLc (iVals td) (gName i) tYes te vs)) σ H (fun v H2 => ∃ (l : Addr) (ds : List Addr), v = .ref l ∧ H l = none ∧ H2 l = some (.lst (ds.map V.ref)) ∧ ds.length = ps.length ∧ ∀ (m : Nat) a p, ds[m]? = some a → ps[m]? = some p → PgAt K H2 a p) := fun H0 e Q q => by
  refine ⟨d, .dK kvs, e _ _ hd, trivial, fun od => ?_⟩
  refine h H0 od _ e (Ex.refl _) _ (Ex.refl _) _ fun H2 e2 => ?_
  have hd2 : H2 d = some (.frz od (.dK kvs)) := e2 d _ upd_same
  refine ⟨d, od, kvs, rfl, hd2, fun Dl hD => ?_⟩
  refine lc_it (walk_values (d := d) (o := od) (kvs := kvs)) (fun m H' => Ex H2 H' ∧ ∃ ds : List Addr, H' Dl = some (.lst (ds.map V.ref)) ∧ ds.length = m ∧ (∀ a ∈ ds, a ≠ d) ∧ ∀ (m : Nat) a p, ds[m]? = some a → ps[m]? = some p → PgAt K H' a p) ⟨Ex.new hD, [], upd_same, rfl, (fun a ha => by cases ha), fun m a p ha => by simp at ha⟩ (fun _ H' _ p => p.1 d _ hd2) (fun m x H' H'' hi p y => ?_) (fun H' p => ?_)
  · obtain ⟨rfl, k, hkv⟩ := y
    obtain ⟨p1, ds, p2, p3, p4, p5⟩ := p
    have hpm : ps[m]? = some (ps[m]'(by omega)) := List.getElem?_eq_getElem _
    refine ⟨hw _, ?_⟩
    refine et_yes H'' (Ex.refl _) _ fun H3 e3 => ?_
    show te _ H3 _
    refine he m k x _ H0 od H3 hkv hpm e ((e2.trans p1).trans e3) H3 (Ex.refl _) _ fun v H4 e4 hv => ?_
    obtain ⟨a, rfl, ha0, haP⟩ := hv
    have hD4 := e4 _ _ (e3 _ _ p2)
    refine ⟨_, hD4, sz_lt (by rw [List.length_map]; omega), Ex.mut ((p1.trans e3).trans e4) hD, ds ++ [a], by rw [upd_same, List.map_append]; rfl, by rw [List.length_append, p3]; rfl, fun y hy => ?_, fun j y p hy hp => ?_⟩
    · rcases List.mem_append.mp hy with hy | hy
      · exact p4 y hy
      · rw [List.mem_singleton.mp hy]
        intro z
        rw [z, e3 _ _ (p1 _ _ hd2)] at ha0
        cases ha0
    · refine PgAt.updL hD4 ?_
      by_cases hm : j < ds.length
      · rw [List.getElem?_append_left hm] at hy
        exact (p5 j y p hy hp).mono (e3.trans e4)
      · have hm2 : j = ds.length := by
          have := (List.getElem?_eq_some_iff.mp hy).1
          rw [List.length_append, List.length_singleton] at this
          omega
        subst hm2
        rw [List.getElem?_append_right (Nat.le_refl _), Nat.sub_self] at hy
        obtain rfl : a = y := Option.some.inj hy
        rw [p3, hpm] at hp
        obtain rfl := Option.some.inj hp
        exact haP
  · obtain ⟨p1, ds, p2, p3, p4, p5⟩ := p
    have hne : Dl ≠ d := fun z => by
      rw [z, hd2] at hD
      cases hD
    refine ⟨p1 d _ hd2, q _ _ (unlock (e _ _ hd) (e2.trans p1)) ⟨Dl, ds, rfl, fresh_back e (lock_free (e _ _ hd) e2 hD), by rw [upd_ne hne]; exact p2, by rw [p3, hl], fun m a p ha hp => ?_⟩⟩
    have hmem := List.mem_of_getElem? ha
    exact (p5 m a p ha hp).updF (p1 d _ hd2) (p4 a hmem)
end
section
variable {P : Program} {w : World} {K : PySem.W.Frag} {mg : Str → Option Value} {base : Heap}
abbrev spSettled (K : PySem.W.Frag) (CR CH : Addr) : Sp := SpF (fun x : (Addr × Addr) × List Nm × List Addr × List Pg => [.ref x.1.1]) (fun x H => RoomAt CR H x.1.1 x.1.2 x.2.1 x.2.2.1 ∧ x.2.2.1.length = x.2.1.length ∧ x.2.2.2.length = x.2.1.length ∧ x.2.1.length ≤ 1000 ∧ ∀ (i : Nat) n y p, x.2.1[i]? = some n → x.2.2.1[i]? = some y → x.2.2.2[i]? = some p → HandAt K CH H y n p ∧ HandOff CH H y n x.1.2) (fun x _ => Is (.bl (x.2.2.2.all fun p => pgEq p (x.2.2.2.headD []))))
theorem HandAt.lock {C x d : Addr} {H : Hp} {n : Nm} {p : Pg} {kvs : List (Key × V)} {od : Obj} (hd : H d = some (.dK kvs)) (h : HandAt K C H x n p) (hoff : HandOff C H x n d) : HandAt K C (upd H d (.frz od (.dK kvs))) x n p := by
  obtain ⟨dx, pd, h1, ⟨kv, g1, g2, g3⟩, h3⟩ := h
  exact ⟨dx, pd, by rw [upd_ne (fun z => by rw [z, hd] at h1; cases h1)]; exact h1, ⟨kv, by rw [upd_ne (hoff dx pd h1)]; exact g1, g2.to fun _ _ => lock_t hd, g3⟩, h3⟩
theorem ok_Room_settled (T : Txt K mg) : FnOk P w K mg base CX0 2 T.a_Room_settled T.d_Room_settled ["self"] (spSettled K T.c_Room T.c_Hand) := by
  refine T.h_Room_settled.F.ok sc_Room_settled (fun vs H Q E h => ?_) (fun cdv A outer s H vs Q E hr h => ?_)
  · obtain ⟨c, rfl, _⟩ := h
    rfl
  · obtain ⟨⟨⟨r, hd⟩, nm, ad, ps⟩, rfl, ⟨⟨⟨dr, hr1⟩, hhd⟩, hal, hpl, hn1, hall⟩, k⟩ := h
    simp only at hr1 hhd hal hpl hn1 hall k
    refine ⟨_, (pss_cons (ps_set (i := 1) sc_Room_settled.nd rfl (by first | exact Or.inl rfl | exact Or.inr rfl) (pe_lock (pe_lc (own := [("hand", 2)]) (by rfl) sc_Room_settled.nd (pi_values (pe_fld (pv 0) rfl)) (blkOk_by (own := [("hand", 2)]) (N := ["self", "pages", "hand", "page"]) (sc := defScope s_Room_settled) (by decide +kernel)) (fun _ _ _ _ _ => (pg_name (i := 2) sc_Room_settled.nd rfl (by first | exact Or.inl rfl | exact Or.inr rfl))) (fun _ _ _ _ _ => pts_nil) (fun _ _ _ _ _ => (pe_meth0 (pv 2) T.cl_Hand T.h_Hand_page.m (ok_Hand_page T) (hr.mono (by decide)) T.h_Hand_page.b .nil pass0))))) (pss_one (ps_ret (pe_callB (cr_all rfl) (by rfl) T.n_all (by decide +kernel) (pa_cons (pe_lc (own := [("page", 3)]) (by rfl) sc_Room_settled.nd (pi_list (pv 1)) (blkOk_by (own := [("page", 3)]) (N := ["self", "pages", "hand", "page"]) (sc := defScope s_Room_settled) (by decide +kernel)) (fun _ _ _ _ _ => (pg_name (i := 3) sc_Room_settled.nd rfl (by first | exact Or.inl rfl | exact Or.inr rfl))) (fun _ _ _ _ _ => pts_nil) (fun _ _ _ _ _ => (pe_cmpR (gc_eqPK (K := K) rfl (units70 hr)) (pv 3) (pe_ix (ix_listK (K := K) rfl) (pv 1) pe_int (fun _ _ => rfl)) (nomark _)))) pa_nil))))), ?_⟩
    have hkl : (roomK nm ad).length = nm.length := by
      unfold roomK
      rw [List.length_map, List.length_zip, hal, Nat.min_self]
    have hrh : r ≠ hd := fun z => by rw [z, hhd] at hr1; cases hr1
    refine qx_asg (x_lockVals (K := K) (ps := ps) hhd (by rw [hkl, hpl]) (by omega) (fun H0 od H1 e0 e1 => ev_fld (ev_var rfl) (e1 _ _ (by rw [upd_ne hrh]; exact e0 _ _ hr1)) T.cl_Room T.na_Room_hands (rfs_hands hd)) (fun _ => rfl) ?_) ?_
    · intro m key v p H0 od H1 hkv hp e0 e1
      have hm : m < nm.length := by rw [← hpl]; exact (List.getElem?_eq_some_iff.mp hp).1
      have hnm : nm[m]? = some nm[m] := List.getElem?_eq_getElem hm
      have had : ad[m]? = some (ad[m]'(by omega)) := List.getElem?_eq_getElem _
      have hv : v = .ref (ad[m]'(by omega)) := by
        unfold roomK at hkv
        rw [List.getElem?_map, List.getElem?_zip_eq_some (z := (nm[m], ad[m]'(by omega))) |>.mpr ⟨hnm, had⟩] at hkv
        exact (Prod.mk.inj (Option.some.inj hkv)).2.symm
      subst hv
      obtain ⟨h1, h2⟩ := hall m _ _ p hnm had hp
      have h10 := h1.mono e0
      have h20 := h2.mono h1 e0
      exact x_handPage (T := T) (ev_var rfl) ((h10.lock (e0 _ _ hhd) h20).mono e1)
    · rintro v H1 e1 ⟨l, ds, rfl, hl0, hl1, hdl, hds⟩
      have hsl := sq_of (K := K) hl1
      have hdlen : (ds.map V.ref).length = ps.length := by rw [List.length_map, hdl]
      refine s_ret (v := .bl (ps.all fun p => pgEq p (ps.headD []))) (ev_is (x_all (bs := ps.map fun p => pgEq p (ps.headD [])) ?_) (by rw [List.all_map]; rfl)) fun H2 e2 => k _ _ (e1.trans e2) rfl
      have key := el_lcL (K := K) (j := 3) (vs := [3]) (σ := [some (.ref r), some (.ref l), none, none]) (xs := ds.map V.ref) (a := l) (fun _ => true) (fun i => V.bl (pgEq ((ps[i]?).getD []) (ps.headD []))) (te := tOp (rPgEq K) (tVar 3) (tOp (rIxL K) (tVar 1) (tC (.int 0)))) (tl := tVar 1) (t := tYes) (H := H1) (ev_var rfl) hsl (by omega) (fun _ => rfl) (fun i x H2 e2 hx => et_yes) (fun i x H2 e2 hx _ => ?_)
      · rw [given_all, hdlen] at key
        have e0 : (List.range ps.length).map (fun i => V.bl (pgEq ((ps[i]?).getD []) (ps.headD []))) = (ps.map fun p => pgEq p (ps.headD [])).map V.bl := by
          rw [map_range_get ps [] (fun p => V.bl (pgEq p (ps.headD []))), List.map_map]
          rfl
        rw [e0] at key
        exact key
      · rw [List.getElem?_map] at hx
        cases c : ds[i]? with
        | none =>
          rw [c] at hx
          cases hx
        | some a =>
          rw [c] at hx
          obtain rfl := Option.some.inj hx
          have hi : i < ps.length := by rw [← hdl]; exact (List.getElem?_eq_some_iff.mp c).1
          have hpi : ps[i]? = some ps[i] := List.getElem?_eq_getElem hi
          have h0 : 0 < ds.length := by omega
          have hp0 : ps[0]? = some (ps[0]'(by omega)) := List.getElem?_eq_getElem _
          have hd0 : ds[0]? = some ds[0] := List.getElem?_eq_getElem h0
          have hhead : ps.headD [] = ps[0]'(by omega) := by
            cases ps with
            | nil => simp at hi
            | cons p r => rfl
          rw [hpi, hhead]
          exact ev_op (ev_var rfl) (ev_op (ev_var rfl) ev_c (rv_ixL (ex_l e2 hsl) (at_ref (i := 0) hd0))) (rv_pgEq ((hds i a _ c hpi).mono e2) ((hds 0 _ _ hd0 hp0).mono e2))
end

--CUT kind
/-! ### which error it was -/
def kl (b : Bool) (z : Str) : List V := if b = true then [.str z] else []
def kdW (b1 b2 b3 b4 b5 : Bool) : List V := (((([] ++ kl b1 "name") ++ kl b2 "amount") ++ kl b3 "page") ++ kl b4 "forged") ++ kl b5 "note"
def spKind (K : PySem.W.Frag) (c1 c2 c3 c4 c5 : Addr) : Addr → Value → Option Addr → Sp := fun a cls d vs H Q _ => vs = [.ref a] ∧ ∃ (D : Addr) (z : Str) (b1 b2 b3 b4 b5 : Bool), cls = .ref D ∧ d = none ∧ ExcC K D ∧
  PySem.W.kitOne K (.ref D) (.ref c1) = some b1 ∧ PySem.W.kitOne K (.ref D) (.ref c2) = some b2 ∧ PySem.W.kitOne K (.ref D) (.ref c3) = some b3 ∧ PySem.W.kitOne K (.ref D) (.ref c4) = some b4 ∧ PySem.W.kitOne K (.ref D) (.ref c5) = some b5 ∧
  PySem.W.kitOne K (.ref D) (.type "ValueError") = some true ∧ kdW b1 b2 b3 b4 b5 = [.str z] ∧ Ret (Is (.str z)) H Q
section
variable {K : PySem.W.Frag} {σ : L2.St} {H H0 : Hp} {tis te : TE} {D : Ends} {tz : TS} {b : Bool} {l : Addr} {ws : List V} {z : Str}
theorem q_kindIf (h : Ev tis σ H (.bl b)) (hs : σ[1]? = some (some (.ref l))) (h0 : H0 l = none) (e0 : Ex H0 H) (hl : H l = some (.lst ws)) (hw : ws.length < 1000) (k : ∀ H1, Ex H0 H1 → H1 l = some (.lst (ws ++ kl b z)) → tz D σ H1) :
    tSeq (tIfS (tB tis) (tDrop (tBM K "list" rAppend (tVar 1) (tCons (tC (.str z)) tNil))) tNext) tz D σ H := by
  refine q_when (et_B h) (fun hb H1 e1 => ?_) (fun hb H1 e1 => ?_)
  · refine s_app (e1 _ _ hl) (ev_var hs) ev_c (by omega) fun H2 e2 => ?_
    refine k _ (Ex.mut (e0.trans (e1.trans e2)) h0) ?_
    rw [upd_same, hb]
    rfl
  · refine k H1 (e0.trans e1) ?_
    rw [e1 _ _ hl, hb]
    show _ = some (HO.lst (ws ++ []))
    rw [List.append_nil]
theorem ev_isP {E a : Addr} {v : V} {cv : Value} (h0 : σ[0]? = some (some (.ref a))) (hv : ∀ u, RelV v u → u = cv) (hk : PySem.W.kitOne K (.ref E) cv = some b) : Ev (tCB (rIsE K E a) (tCons (tVar 0) (tCons (tC v) tNil))) σ H (.bl b) := fun H1 _ _ q =>
  ⟨.ref a, h0, v, cv, b, rfl, hv, hk, q H1 (Ex.refl H1)⟩
theorem kl_len (b : Bool) (z : Str) : (kl b z).length ≤ 1 := by
  cases b
  · exact Nat.zero_le _
  · exact Nat.le_refl 1
theorem ev_kind {c1 c2 c3 c4 c5 a E : Addr} {z : Str} {b1 b2 b3 b4 b5 : Bool} (h : Ev te σ H (.ref a)) (hC : ExcC K E) (k1 : PySem.W.kitOne K (.ref E) (.ref c1) = some b1) (k2 : PySem.W.kitOne K (.ref E) (.ref c2) = some b2) (k3 : PySem.W.kitOne K (.ref E) (.ref c3) = some b3)
    (k4 : PySem.W.kitOne K (.ref E) (.ref c4) = some b4) (k5 : PySem.W.kitOne K (.ref E) (.ref c5) = some b5) (kv : PySem.W.kitOne K (.ref E) (.type "ValueError") = some true) (hw : kdW b1 b2 b3 b4 b5 = [.str z]) :
    Ev (tCall (spKind K c1 c2 c3 c4 c5 a (.ref E) none) [] E0 (tCons te tNil)) σ H (.str z) := fun H1 e Q q =>
  h H1 e _ fun H2 e2 => ⟨rfl, E, z, b1, b2, b3, b4, b5, rfl, rfl, hC, k1, k2, k3, k4, k5, kv, hw, fun v H3 e3 hv => by
    obtain rfl : v = .str z := hv
    exact q H3 (e2.trans e3)⟩
end
section
variable {P : Program} {w : World} {K : PySem.W.Frag} {mg : Str → Option Value} {base : Heap}
theorem fp_law_kind (T : Txt K mg) : FnP P w K mg base 1 T.a_law_kind T.d_law_kind ["_law_error"] (spKind K T.c_NoName T.c_NoAmount T.c_NoPage T.c_Forged T.c_NoNote) := by
  refine fun_okP T.h_law_kind.F sc_law_kind (fun a cls d vs H Q E h => ?_) (fun cdv A outer s H vs Q E p cls d hr hz hf h => ?_)
  · obtain ⟨rfl, _⟩ := h
    rfl
  · obtain ⟨rfl, D, z, b1, b2, b3, b4, b5, rfl, rfl, hC, k1, k2, k3, k4, k5, kv, hw, k⟩ := h
    refine ⟨_, (pss_cons (ps_set (i := 1) sc_law_kind.nd rfl (by first | exact Or.inl rfl | exact Or.inr rfl) (pe_lst pa_nil)) (pss_cons (ps_if (pt_val (pe_callB (call_isP (a := p.1) (oe := p.2) (List.mem_singleton.mpr rfl) hC hz hf) (by rfl) T.n_isinstance (by decide +kernel) (pa_cons (pv 0) (pa_cons (pe_glob (v := .ref T.c_NoName) rfl T.x_NoName.g rfl) pa_nil)))) (pss_one (ps_expr (pe_bm PySem.F.plainAttrs_list PySem.F.slot_list_append PySem.F.type_list_append mt_append (pv 1) (pa_cons pe_str pa_nil)))) pss_nil) (pss_cons (ps_if (pt_val (pe_callB (call_isP (a := p.1) (oe := p.2) (List.mem_singleton.mpr rfl) hC hz hf) (by rfl) T.n_isinstance (by decide +kernel) (pa_cons (pv 0) (pa_cons (pe_glob (v := .ref T.c_NoAmount) rfl T.x_NoAmount.g rfl) pa_nil)))) (pss_one (ps_expr (pe_bm PySem.F.plainAttrs_list PySem.F.slot_list_append PySem.F.type_list_append mt_append (pv 1) (pa_cons pe_str pa_nil)))) pss_nil) (pss_cons (ps_if (pt_val (pe_callB (call_isP (a := p.1) (oe := p.2) (List.mem_singleton.mpr rfl) hC hz hf) (by rfl) T.n_isinstance (by decide +kernel) (pa_cons (pv 0) (pa_cons (pe_glob (v := .ref T.c_NoPage) rfl T.x_NoPage.g rfl) pa_nil)))) (pss_one (ps_expr (pe_bm PySem.F.plainAttrs_list PySem.F.slot_list_append PySem.F.type_list_append mt_append (pv 1) (pa_cons pe_str pa_nil)))) pss_nil) (pss_cons (ps_if (pt_val (pe_callB (call_isP (a := p.1) (oe := p.2) (List.mem_singleton.mpr rfl) hC hz hf) (by rfl) T.n_isinstance (by decide +kernel) (pa_cons (pv 0) (pa_cons (pe_glob (v := .ref T.c_Forged) rfl T.x_Forged.g rfl) pa_nil)))) (pss_one (ps_expr (pe_bm PySem.F.plainAttrs_list PySem.F.slot_list_append PySem.F.type_list_append mt_append (pv 1) (pa_cons pe_str pa_nil)))) pss_nil) (pss_cons (ps_if (pt_val (pe_callB (call_isP (a := p.1) (oe := p.2) (List.mem_singleton.mpr rfl) hC hz hf) (by rfl) T.n_isinstance (by decide +kernel) (pa_cons (pv 0) (pa_cons (pe_glob (v := .ref T.c_NoNote) rfl T.x_NoNote.g rfl) pa_nil)))) (pss_one (ps_expr (pe_bm PySem.F.plainAttrs_list PySem.F.slot_list_append PySem.F.type_list_append mt_append (pv 1) (pa_cons pe_str pa_nil)))) pss_nil) (pss_cons (ps_if (PW.pt (pw_or (pt_cmpR op_ne (pe_callB call_len_seq (by rfl) T.n_len PySem.boot_len (pa_cons (pv 1) pa_nil)) pe_int (nomark _)) (pw_or1 (pt_not (pt_val (pe_callB (call_isP (a := p.1) (oe := p.2) (List.mem_singleton.mpr rfl) hC hz hf) (by rfl) T.n_isinstance (by decide +kernel) (pa_cons (pv 0) (pa_cons (pe_bltn (v := .ty "ValueError") (u := .type "ValueError") (by rfl) T.n_ValueError (by decide +kernel) rfl) pa_nil)))))))) (pss_one (ps_ret pe_str)) pss_nil) (pss_one (ps_ret (pe_ix ix_list (pv 1) pe_int (fun _ _ => rfl))))))))))), ?_⟩
    have l1 := kl_len b1 "name"
    have l2 := kl_len b2 "amount"
    have l3 := kl_len b3 "page"
    have l4 := kl_len b4 "forged"
    refine q_asgL (el_lst ea_nil (by decide)) fun l H1 hl0 e1 hl1 => ?_
    refine q_kindIf (b := b1) (ev_isP rfl (fun _ h => h) k1) rfl hl0 e1 hl1 (by decide) fun H2 e2 hl2 => ?_
    refine q_kindIf (b := b2) (ev_isP rfl (fun _ h => h) k2) rfl hl0 e2 hl2 (by simp only [List.length_append, List.length_nil]; omega) fun H3 e3 hl3 => ?_
    refine q_kindIf (b := b3) (ev_isP rfl (fun _ h => h) k3) rfl hl0 e3 hl3 (by simp only [List.length_append, List.length_nil]; omega) fun H4 e4 hl4 => ?_
    refine q_kindIf (b := b4) (ev_isP rfl (fun _ h => h) k4) rfl hl0 e4 hl4 (by simp only [List.length_append, List.length_nil]; omega) fun H5 e5 hl5 => ?_
    refine q_kindIf (b := b5) (ev_isP rfl (fun _ h => h) k5) rfl hl0 e5 hl5 (by simp only [List.length_append, List.length_nil]; omega) fun H6 e6 hl6 => ?_
    replace hl6 : H6 l = some (.lst (kdW b1 b2 b3 b4 b5)) := hl6
    rw [hw] at hl6
    refine q_when (b := !decide (V.int 1 = V.int 1) || !true) (et_or (et_test (ev_op (ev_len (ev_var rfl) (sq_of hl6)) ev_c (rv_ne rfl))) fun _ => et_not (et_B (ev_isP rfl (fun _ h => h) kv))) (fun hb _ _ => by simp at hb) (fun _ H7 e7 => ?_)
    exact s_ret (v := .str z) (ev_op (ev_var rfl) ev_c (rv_ixL (sq_of (e7 _ _ hl6)) rfl)) fun H8 e8 => k _ _ ((e6.trans e7).trans e8) rfl
end

--CUT lw
section
variable {P : Program} {w : World} {K : PySem.W.Frag} {mg : Str → Option Value} {base : Heap}
abbrev spWhole : Sp := SpF (fun c : Int => [.int c]) (fun _ _ => True) (fun c _ => Is (.bl true))
theorem sv_whole {c : Int} {H : Hp} : SpV spWhole [.int c] H (.bl true) := sv_of (sx_of c (fun _ _ => trivial) fun _ _ _ _ _ h => h)
theorem ok_law_whole (T : Txt K mg) : FnOk P w K mg base CX0 1 T.a_law_whole T.d_law_whole ["_law_found"] spWhole := by
  refine T.h_law_whole.F.ok sc_law_whole (fun vs H Q E h => ?_) (fun cdv A outer s H vs Q E hr h => ?_)
  · obtain ⟨c, rfl, _⟩ := h
    rfl
  · obtain ⟨c, rfl, _, k⟩ := h
    refine ⟨_, (pss_one (ps_ret (pe_and (pe_callB call_isi (by rfl) T.n_isinstance (by decide +kernel) (pa_cons (pv 0) (pa_cons (pe_bltn (v := .ty "int") (u := .type "int") (by rfl) T.n_int (by decide +kernel) rfl) pa_nil))) (pe_one (pe_not (pe_callB call_isi (by rfl) T.n_isinstance (by decide +kernel) (pa_cons (pv 0) (pa_cons (pe_bltn (v := .ty "bool") (u := .type "bool") (by rfl) T.n_bool (by decide +kernel) rfl) pa_nil)))))))), ?_⟩
    refine s_ret (by walk_at "ev") fun H3 e3 => ?_
    exact k _ _ (by walk_at "ex") rfl

end
local macro_rules | `(tactic| walk_at "sv") => `(tactic| exact sv_whole)

section
variable {P : Program} {w : World} {K : PySem.W.Frag} {mg : Str → Option Value} {base : Heap}
abbrev spTruth : Sp := SpF (fun x : Bool × Bool => [.bl x.1, .bl x.2]) (fun _ _ => True) (fun x H => Is (.bl (decide (V.bl x.1 = V.bl x.2))))
theorem sv_truth {a b : Bool} {H : Hp} : SpV spTruth [.bl a, .bl b] H (.bl (decide (V.bl a = V.bl b))) := sv_of (sx_of (a, b) (fun _ _ => trivial) fun _ _ _ _ _ h => h)
theorem ok_law_truth (T : Txt K mg) : FnOk P w K mg base CX0 1 T.a_law_truth T.d_law_truth ["_law_found", "_law_due"] spTruth := by
  refine T.h_law_truth.F.ok sc_law_truth (fun vs H Q E h => ?_) (fun cdv A outer s H vs Q E hr h => ?_)
  · obtain ⟨c, rfl, _⟩ := h
    rfl
  · obtain ⟨⟨a, b⟩, rfl, _, k⟩ := h
    simp only at k
    refine ⟨_, (pss_one (ps_ret (pe_and (pe_callB call_isi (by rfl) T.n_isinstance (by decide +kernel) (pa_cons (pv 0) (pa_cons (pe_bltn (v := .ty "bool") (u := .type "bool") (by rfl) T.n_bool (by decide +kernel) rfl) pa_nil))) (pe_one (pe_cmpR op_eq (pv 0) (pv 1) (nomark _)))))), ?_⟩
    refine s_ret (by walk_at "ev") fun H1 e1 => ?_
    refine k _ _ e1 ?_
    show _ = _
    simp
end
local macro_rules | `(tactic| walk_at "sv") => `(tactic| exact sv_truth)

section
variable {P : Program} {w : World} {K : PySem.W.Frag} {mg : Str → Option Value} {base : Heap}
abbrev spShare (K : PySem.W.Frag) : Sp := SpF (fun x : (Addr × Addr) × (Int × Int) × Int × Int => [.ref x.1.1, .ref x.1.2]) (fun x H => SqT K H x.1.1 [.int x.2.1.1, .int x.2.1.2] ∧ SqT K H x.1.2 [.int x.2.2.1, .int x.2.2.2]) (fun x _ => Is (.bl (decide (x.2.1 = x.2.2))))
theorem ok_law_share (T : Txt K mg) : FnOk P w K mg base CX0 2 T.a_law_share T.d_law_share ["_law_found", "_law_due"] (spShare K) := by
  refine T.h_law_share.F.ok sc_law_share (fun vs H Q E h => ?_) (fun cdv A outer s H vs Q E hr h => ?_)
  · obtain ⟨c, rfl, _⟩ := h
    rfl
  · obtain ⟨⟨⟨p, q⟩, ⟨a, b⟩, c, d⟩, rfl, ⟨hp, hq⟩, k⟩ := h
    simp only at hp hq k
    refine ⟨_, (pss_cons (ps_if (PW.pt (pw_or (pt_not (pt_val (pe_callB call_isi (by rfl) T.n_isinstance (by decide +kernel) (pa_cons (pv 0) (pa_cons (pe_bltn (v := .ty "tuple") (u := .type "tuple") (by rfl) T.n_tuple (by decide +kernel) rfl) pa_nil))))) (pw_or1 (pt_cmpR op_ne (pe_callB call_len_seq (by rfl) T.n_len PySem.boot_len (pa_cons (pv 0) pa_nil)) pe_int (nomark _))))) (pss_one (ps_ret pe_bl)) pss_nil) (pss_one (ps_ret (pe_and (pe_call (ok_law_whole T) (hr.mono (by decide)) rfl T.h_law_whole.m T.h_law_whole.F.kp T.h_law_whole.b .nil pass0 (pa_cons (pe_ix ix_tup (pv 0) pe_int (fun _ _ => rfl)) pa_nil)) (pe_and (pe_call (ok_law_whole T) (hr.mono (by decide)) rfl T.h_law_whole.m T.h_law_whole.F.kp T.h_law_whole.b .nil pass0 (pa_cons (pe_ix ix_tup (pv 0) pe_int (fun _ _ => rfl)) pa_nil)) (pe_and (pe_cmpR op_eq (pe_ix ix_tup (pv 0) pe_int (fun _ _ => rfl)) (pe_ix ix_tup (pv 1) pe_int (fun _ _ => rfl)) (nomark _)) (pe_one (pe_cmpR op_eq (pe_ix ix_tup (pv 0) pe_int (fun _ _ => rfl)) (pe_ix ix_tup (pv 1) pe_int (fun _ _ => rfl)) (nomark _))))))))), ?_⟩
    refine q_when (by walk_at "ev") (fun hb H2 e2 => ?_) (fun hb H2 e2 => ?_)
    · exact absurd hb (by simp)
    · refine s_ret (by walk_at "ev") fun H3 e3 => k _ _ (by walk_at "ex") ?_
      show _ = _
      by_cases h1 : a = c
      · by_cases h2 : b = d
        · subst h1 h2
          simp
        · simp [h2]
      · simp [h1]
theorem x_share {σ : L2.St} {H : Hp} {ta tb : TE} {E : XK} {a b c d : Int} (h1 : EvX ta σ H (Tp K [.int a, .int b])) (h2 : EvX tb σ H (Tp K [.int c, .int d])) :
    Ev (tCall (spShare K) [] E (tCons ta (tCons tb tNil))) σ H (.bl (decide ((a, b) = (c, d)))) := ev_x (x_call2 h1 h2 (by
  rintro _ _ H1 e ⟨p, rfl, hp⟩ ⟨q, rfl, hq⟩
  exact sx_of ((p, q), (a, b), c, d) (fun H2 e2 => ⟨ex_t e2 hp, ex_t e2 hq⟩) fun _ _ _ _ _ h => h))
end
local macro_rules | `(tactic| walk_at "xc") => `(tactic| ((with_reducible apply x_share); (focus (walk_at "xv")); (focus (walk_at "xv"))))

/-! ### two pages alike, names rising -/
section
variable {K : PySem.W.Frag} {σ : L2.St} {H H' : Hp} {ta tb te td tk tv : TE} {v : V} {P : VP}
abbrev rListK : List V → Hp → VK → Prop := fun xs H Q => ∃ (a : Addr) (kvs : List (Key × V)), xs = [.ref a] ∧ Rd H a (.dK kvs) ∧ ∀ p, H p = none → Q (.ref p) (upd H p (.lst (kvs.map fun kv => kV kv.1)))
def nmV (ns : List Nm) : List V := ns.map fun n => V.str (ofL n)
theorem x_listPg {a : Addr} {p : Pg} (h : Ev ta σ H (.ref a)) (hp : PgRd K H a p) : EvX (tCB rListK (tCons ta tNil)) σ H (Ls K (nmV (p.map (·.1)))) := fun H1 e Q q =>
  h H1 e _ fun H2 e2 => by
    obtain ⟨kvs, h1, h2, _⟩ := hp.mono (e.trans e2)
    refine ⟨a, kvs, rfl, h1, fun r hr => q _ _ (e2.trans (Ex.new hr)) ⟨r, rfl, ?_⟩⟩
    have : kvs.map (fun kv => kV kv.1) = nmV (p.map (·.1)) := by
      have := congrArg (List.map kV) h2.keys
      rw [List.map_map, List.map_map, List.map_map] at this
      unfold nmV
      rw [List.map_map]
      exact this
    rw [this]
    exact sq_of upd_same
theorem x_sortPg {a : Addr} {p : Pg} (h : Ev ta σ H (.ref a)) (hp : PgRd K H a p) : EvX (tCB rSortD (tCons ta tNil)) σ H (fun v H2 => ∃ ns, Ls K (nmV ns) v H2 ∧ ns.Perm (p.map (·.1)) ∧ RisingN ns) := fun H1 e Q q =>
  h H1 e _ fun H2 e2 => by
    obtain ⟨kvs, h1, h2, _, _, h5⟩ := hp.mono (e.trans e2)
    refine ⟨a, kvs, p.map fun e => ofL e.1, rfl, h1, h2.keys, by rw [List.length_map]; omega, fun ys r hperm hys hr => ?_⟩
    obtain ⟨hns, eys⟩ := perm_names hperm
    have hris : RisingN (ys.map fun y => y.cps.toList) := List.pairwise_map.mpr hys
    generalize (ys.map fun y => y.cps.toList) = ns at hns eys hris
    subst eys
    refine q _ _ (e2.trans (Ex.new hr)) ⟨ns, ⟨r, rfl, ?_⟩, hns, hris⟩
    rw [List.map_map]
    exact sq_of upd_same
theorem rising_eq {a b : List Nm} (h : a.Perm b) (ha : RisingN a) (hb : RisingN b) : a = b :=
  List.Perm.eq_of_pairwise (le := fun a b => ¬ b < a) (fun x y _ _ h1 h2 => List.le_antisymm h1 h2) ha hb h
theorem dpAll_names {ns : List Nm} : DpAll K H (nmV ns) (ns.map fun n => PyData.str (ofL n)) := by
  unfold nmV
  induction ns with
  | nil => exact .nil
  | cons n ns ih => exact .cons (.str _) ih
theorem can_names : ∀ {ns : List Nm}, (∀ n ∈ ns, NmOk n) → PyData.canLayAll0 (ns.map fun n => PyData.str (ofL n)) = true
  | [], _ => by simp [PyData.canLayAll0]
  | n :: ns, h => by
    have h1 := (h n List.mem_cons_self).2.2
    rw [List.map_cons, PyData.canLayAll0, can_names fun m hm => h m (List.mem_cons_of_mem _ hm), Bool.and_true, PyData.canLay0]
    show (ofL n).cps.all _ = true
    show n.toArray.all _ = true
    rw [List.all_toArray, List.all_eq_true]
    intro x hx
    exact decide_eq_true (h1 x hx)
theorem dep_names : ∀ {ns : List Nm}, PyData.depthAll (ns.map fun n => PyData.str (ofL n)) = 0
  | [] => rfl
  | n :: ns => by rw [List.map_cons, PyData.depthAll, dep_names, PyData.depth]; rfl
theorem ev_neNames {ns : List Nm} {P2 : VP} (hn : ∀ n ∈ ns, NmOk n) (h1 : EvX ta σ H (Ls K (nmV ns))) (h2 : EvX tb σ H P2) (hP : ∀ v H1, P2 v H1 → Ls K (nmV ns) v H1) : Ev (tOp (rNeD K) ta tb) σ H (.bl false) := ev_op2X h1 h2 (by
  rintro _ b H1 e ⟨p, rfl, hp⟩ h
  obtain ⟨q, rfl, hq⟩ := hP _ _ h
  have sh : SeqAt.shaped (.list (ns.map fun n => PyData.str (ofL n))) = true := by
    unfold SeqAt.shaped
    rw [PyData.canLay0, can_names hn, PyData.depth, dep_names]
    rfl
  have := rv_neD (K := K) (H := H1) (fun H2 e2 => .lst (ex_l e2 hp) dpAll_names) (fun H2 e2 => .lst (ex_l e2 hq) dpAll_names) sh sh
  rw [SeqAt.eqv_refl _ (SeqAt.canLay_of_shaped sh)] at this
  exact this)
end
section
variable {P : Program} {w : World} {K : PySem.W.Frag} {mg : Str → Option Value} {base : Heap}
abbrev spSame (K : PySem.W.Frag) : Sp := SpF (fun x : (Addr × Addr) × Pg × Pg => [.ref x.1.1, .ref x.1.2]) (fun x H => PgAt K H x.1.1 x.2.1 ∧ PgRd K H x.1.2 x.2.2 ∧ x.2.1.Perm x.2.2 ∧ RisingN (x.2.1.map (·.1))) (fun _ _ => Is (.bl true))
theorem ok_law_same (T : Txt K mg) : FnOk P w K mg base CX0 3 T.a_law_same T.d_law_same ["_law_found", "_law_due"] (spSame K) := by
  refine T.h_law_same.F.ok sc_law_same (fun vs H Q E h => ?_) (fun cdv A outer s H vs Q E hr h => ?_)
  · obtain ⟨c, rfl, _⟩ := h
    rfl
  · obtain ⟨⟨⟨a, b⟩, f, d⟩, rfl, ⟨hf, hd, hperm, hris⟩, k⟩ := h
    simp only at hf hd hperm hris k
    refine ⟨_, (pss_cons (ps_if (PW.pt (pw_or (pt_not (pt_val (pe_callB call_isi (by rfl) T.n_isinstance (by decide +kernel) (pa_cons (pv 0) (pa_cons (pe_bltn (v := .ty "dict") (u := .type "dict") (by rfl) T.n_dict (by decide +kernel) rfl) pa_nil))))) (pw_or1 (pt_cmpR (op_neD hr.units) (pe_callTy (call_listD rfl) (by rfl) T.n_list (by decide +kernel) (pa_cons (pv 0) pa_nil)) (pe_callB (gc_sortedD rfl) (by rfl) T.n_sorted (by decide +kernel) (pa_cons (pv 1) pa_nil)) (nomark _))))) (pss_one (ps_ret pe_bl)) pss_nil) (pss_cons (ps_lock (ps_for PassesOwn.never rfl (pi_keys (pv 0)) (pg_name (i := 2) sc_law_same.nd rfl (by first | exact Or.inl rfl | exact Or.inr rfl)) (pss_one (ps_if (PW.pt (pw_or (pt_not (pt_val (pe_callB call_isi (by rfl) T.n_isinstance (by decide +kernel) (pa_cons (pv 2) (pa_cons (pe_bltn (v := .ty "str") (u := .type "str") (by rfl) T.n_str (by decide +kernel) rfl) pa_nil))))) (pw_or1 (pt_not (pt_val (pe_call (ok_law_share T) (hr.mono (by decide)) rfl T.h_law_share.m T.h_law_share.F.kp T.h_law_share.b .nil pass0 (pa_cons (pe_dget (hu_of hr) (pv 0) (pv 2) (fun _ _ => rfl)) (pa_cons (pe_dget (hu_of hr) (pv 1) (pv 2) (fun _ _ => rfl)) pa_nil)))))))) (pss_one (ps_ret pe_bl)) pss_nil)))) (pss_one (ps_ret pe_bl)))), ?_⟩
    obtain ⟨kvs, hk1, hk2, hk3, hk4, hk5⟩ := id hf
    have hnames : ∀ n ∈ f.map (·.1), NmOk n := fun n hn => by
      obtain ⟨e, he, rfl⟩ := List.mem_map.mp hn
      exact hk4 e he
    refine q_when (b := !true || false) (et_or (et_not (et_B (ev_cb (ea_cons (ev_var rfl) (ea_cons ev_c ea_nil)) (rc_isi (a := "dict") (fun H1 e1 => .base (.dK (e1 _ _ hk1))) (by decide +kernel))))) fun _ => et_test (ev_neNames (K := K) (ns := f.map (·.1)) hnames (x_listPg (K := K) (ev_var rfl) hf.rd) (x_sortPg (K := K) (ev_var rfl) hd) ?_)) (fun hb H1 e1 => by cases hb) (fun _ H1 e1 => ?_)
    · rintro v H1 ⟨ns, h1, h2, h3⟩
      have : ns = f.map (·.1) := rising_eq (h2.trans (hperm.map (·.1)).symm) h3 hris
      rw [← this]
      exact h1
    refine q_lock (e1 _ _ hk1) fun od => ?_
    have hfF : PgRd K (upd H1 a (.frz od (.dK kvs))) a f := (hf.rd.mono e1).lock (e1 _ _ hk1)
    have hdF : PgRd K (upd H1 a (.frz od (.dK kvs))) b d := (hd.mono e1).lock (e1 _ _ hk1)
    have haF : upd H1 a (.frz od (.dK kvs)) a = some (.frz od (.dK kvs)) := upd_same
    have hun : ∀ H', Ex (upd H1 a (.frz od (.dK kvs))) H' → Ex H (upd H' a (.dK kvs)) := fun H' e => e1.trans (unlock (e1 _ _ hk1) e)
    generalize upd H1 a (.frz od (.dK kvs)) = HL at hfF hdF haF hun
    refine s_forKeys (kvs := kvs) (ev_var rfl) haF (fun i σ' H' => ∃ s2, σ' = [some (.ref a), some (.ref b), s2] ∧ Ex HL H') (fun H2 e2 => ⟨none, rfl, e2⟩) ?_ ?_ ?_
    · rintro m σ' H' ⟨s2, rfl, eH⟩
      exact eH _ _ haF
    · rintro i key u σ' H2 hkv ⟨s2, rfl, eH⟩
      obtain ⟨⟨n, s⟩, hem, hkey, _⟩ := hk2.at hkv
      have hmem := List.mem_of_getElem? hem
      have hget := getP_mem hk3 _ hmem
      have hget2 : getP d n = some s := getP_mem (((hperm.map (·.1)).nodup_iff).mp hk3) _ (hperm.mem_iff.mp hmem)
      simp only at hkey hget
      subst hkey
      refine s_when (b := !true || !(decide ((s.1, s.2) = (s.1, s.2)))) (et_or (et_not (et_B (ev_cb (ea_cons (ev_var rfl) (ea_cons ev_c ea_nil)) (rc_isi (x := .str (ofL n)) (a := "str") (b := true) (fun _ _ => .base (.str _)) (by decide +kernel))))) fun _ => et_not (et_B (x_share (K := K) (x_dget (K := K) (ev_var rfl) (ev_var rfl) (hfF.mono eH) hget) (x_dget (K := K) (ev_var rfl) (ev_var rfl) (hdF.mono eH) hget2)))) (fun hb H3 e3 => by simp at hb) (fun _ H3 e3 => ⟨_, rfl, eH.trans e3⟩)
    · rintro σ' H' ⟨s2, rfl, eH⟩
      refine ⟨eH _ _ haF, ?_⟩
      dsimp only
      refine s_ret ev_c fun H2 e2 => ?_
      exact k _ _ ((hun _ eH).trans e2) rfl
theorem x_sameX {σ : L2.St} {H : Hp} {ta tb : TE} {E : XK} {P1 : VP} {dd : Pg} {b : Addr} (h1 : EvX ta σ H P1) (h2 : Ev tb σ H (.ref b)) (hd : PgRd K H b dd) (g : ∀ v H1, Ex H H1 → P1 v H1 → ∃ d f, v = .ref d ∧ PgAt K H1 d f ∧ f.Perm dd ∧ RisingN (f.map (·.1))) [Mono P1] :
    Ev (tCall (spSame K) [] E (tCons ta (tCons tb tNil))) σ H (.bl true) := ev_x (x_call2 h1 (x_ev h2) (by
  rintro _ _ H1 e p1 rfl
  obtain ⟨d, f, rfl, h3, h4, h5⟩ := g _ _ e p1
  exact sx_of ((d, b), f, dd) (fun H2 e2 => ⟨h3.mono e2, hd.mono (e.trans e2), h4, h5⟩) fun _ _ _ _ _ h => h))
end

def cellAt (ns : List Int) (k : Int) : Int := ns[k.toNat]?.getD 0
section
variable {P : Program} {w : World} {K : PySem.W.Frag} {mg : Str → Option Value} {base : Heap}
abbrev spCell (K : PySem.W.Frag) : Sp := SpF (fun x : Addr × List Int × Int => [.ref x.1, .int x.2.2]) (fun x H => SqL K H x.1 (x.2.1.map V.int) ∧ 0 ≤ x.2.2) (fun x _ => Is (.int (cellAt x.2.1 x.2.2)))
theorem sv_cell {H : Hp} {a : Addr} {ns : List Int} {k : Int} (h : SqL K H a (ns.map V.int)) (hk : 0 ≤ k) : SpV (spCell K) [.ref a, .int k] H (.int (cellAt ns k)) := sv_of (sx_of (a, ns, k) (fun _ e => ⟨ex_l e h, hk⟩) fun _ _ _ _ _ h => h)
theorem ok_law_cell_at (T : Txt K mg) : FnOk P w K mg base CX0 1 T.a_law_cell_at T.d_law_cell_at ["_law_script", "_law_k"] (spCell K) := by
  refine T.h_law_cell_at.F.ok sc_law_cell_at (fun vs H Q E h => ?_) (fun cdv A outer s H vs Q E hr h => ?_)
  · obtain ⟨c, rfl, _⟩ := h
    rfl
  · obtain ⟨⟨a, ns, j⟩, rfl, ⟨hs, hj⟩, k⟩ := h
    simp only at hs hj k
    refine ⟨_, (pss_cons (ps_if (pt_cmpR op_lt (pv 1) (pe_callB call_len_seq (by rfl) T.n_len PySem.boot_len (pa_cons (pv 0) pa_nil)) (nomark _)) (pss_one (ps_ret (pe_ix ix_list (pv 0) (pv 1) (fun _ _ => rfl)))) pss_nil) (pss_one (ps_ret pe_int))), ?_⟩
    refine q_when (by walk_at "ev") (fun hb H2 e2 => ?_) (fun hb H2 e2 => ?_)
    · have hb' : j < ((ns.map V.int).length : Int) := of_decide_eq_true hb
      rw [List.length_map] at hb'
      have hlt : j.toNat < ns.length := by omega
      have e0 : ((j.toNat : Nat) : Int) = j := by omega
      refine s_ret (ev_op (ev_var rfl) (ev_var rfl) (rv_ixL (xs := ns.map V.int) (v := .int (cellAt ns j)) (ex_l e2 hs) ?_)) fun H3 e3 => k _ _ (by walk_at "ex") rfl
      show atI (ns.map V.int) j = _
      rw [← e0]
      refine atI_nat ?_
      rw [List.getElem?_map, List.getElem?_eq_getElem hlt]
      unfold cellAt
      rw [e0, List.getElem?_eq_getElem hlt]
      rfl
    · have hb' : ¬ j < ((ns.map V.int).length : Int) := of_decide_eq_false hb
      rw [List.length_map] at hb'
      refine s_ret ev_c fun H3 e3 => k _ _ (by walk_at "ex") ?_
      show _ = _
      rw [cellAt, List.getElem?_eq_none (by omega)]
      rfl
end
local macro_rules | `(tactic| walk_at "sv") => `(tactic| exact sv_cell (by walk_at "sq") (by decide))

/-! ### texts cut -/
theorem cut_take' (cs : List Nat) (n : Nat) : cutS (ofL cs) none (some (n : Int)) = ofL (cs.take n) := by
  unfold cutS
  rw [HT.sIx_none, HT.sIx_nat]
  have e : (ofL cs).length = cs.length := ofL_len cs
  have e2 : (ofL cs).cps.toList = cs := rfl
  rw [e, e2]
  show ofL _ = ofL _
  congr 1
  rw [List.drop_zero, Nat.sub_zero]
  rcases Nat.le_total n cs.length with h | h
  · rw [Nat.min_eq_left h]
  · rw [Nat.min_eq_right h, List.take_length, List.take_of_length_le h]
theorem cut_drop' (cs : List Nat) (n : Nat) : cutS (ofL cs) (some (n : Int)) none = ofL (cs.drop n) := by
  unfold cutS
  rw [HT.sIx_none, HT.sIx_nat]
  have e : (ofL cs).length = cs.length := ofL_len cs
  have e2 : (ofL cs).cps.toList = cs := rfl
  rw [e, e2]
  show ofL _ = ofL _
  congr 1
  rcases Nat.le_total n cs.length with h | h
  · rw [Nat.min_eq_left h]
    exact List.take_of_length_le (by rw [List.length_drop]; omega)
  · rw [Nat.min_eq_right h, List.drop_length, List.drop_of_length_le h, List.take_nil]
section
variable {σ : L2.St} {H : Hp} {te : TE}
theorem ev_slS1 {cs : List Nat} {tk : TE} {n : Nat} (h : Ev te σ H (.str (ofL cs))) (hk : Ev tk σ H (.int (n : Int))) (hl : cs.length ≤ 100000) : Ev (tSl rSlS te tNoPart (tPart tk)) σ H (.str (ofL (cs.take n))) := fun H1 e Q q =>
  h H1 e _ fun H2 e2 => hk H2 (e.trans e2) _ fun H3 e3 => ⟨n, rfl, ofL cs, rfl, sz_of (by rw [ofL_len]; exact hl), by
    rw [cut_take']
    exact q H3 (e2.trans e3)⟩
theorem ev_slS2 {cs : List Nat} {tk : TE} {n : Nat} (h : Ev te σ H (.str (ofL cs))) (hk : Ev tk σ H (.int (n : Int))) (hl : cs.length ≤ 100000) : Ev (tSl rSlS te (tPart tk) tNoPart) σ H (.str (ofL (cs.drop n))) := fun H1 e Q q =>
  h H1 e _ fun H2 e2 => hk H2 (e.trans e2) _ fun H3 e3 => ⟨n, rfl, ofL cs, rfl, sz_of (by rw [ofL_len]; exact hl), by
    rw [cut_drop']
    exact q H3 (e2.trans e3)⟩
end

def LjV (K : PySem.W.Frag) (H : Hp) (p q : Pg) : VP := fun v H2 => ∃ d r, v = .ref d ∧ H d = none ∧ PgAt K H2 d r ∧ (∀ n, getP r n = joinG p q n)
section
variable {P : Program} {w : World} {K : PySem.W.Frag} {mg : Str → Option Value} {base : Heap}
abbrev spLawJoin (K : PySem.W.Frag) : Sp := SpF (fun x : (Addr × Addr) × Pg × Pg => [.ref x.1.1, .ref x.1.2]) (fun x H => PgAt K H x.1.1 x.2.1 ∧ PgAt K H x.1.2 x.2.2 ∧ x.2.1.length + x.2.2.length ≤ 900) (fun x H => LjV K H x.2.1 x.2.2)
theorem x_lawJoin {σ : L2.St} {H : Hp} {ta tb : TE} {E : XK} {a b : Addr} {p q : Pg} (h1 : Ev ta σ H (.ref a)) (h2 : Ev tb σ H (.ref b)) (hp : PgAt K H a p) (hq : PgAt K H b q) (hl : p.length + q.length ≤ 900) :
    EvX (tCall (spLawJoin K) [] E (tCons ta (tCons tb tNil))) σ H (LjV K H p q) := x_call2 (x_ev h1) (x_ev h2) (by
  rintro _ _ H1 e rfl rfl
  exact sx_of ((a, b), p, q) (fun H2 e2 => ⟨hp.mono (e.trans e2), hq.mono (e.trans e2), hl⟩) fun _ _ _ e2 _ ⟨d, r, h1, h2, h3⟩ => ⟨d, r, h1, fresh_back (e.trans e2) h2, h3⟩)
theorem ok_law_joined (T : Txt K mg) : FnOk P w K mg base CX0 1 T.a_law_joined T.d_law_joined ["_law_one", "_law_other"] (spLawJoin K) := by
  refine T.h_law_joined.F.ok sc_law_joined (fun vs H Q E h => ?_) (fun cdv A outer s H vs Q E hr h => ?_)
  · obtain ⟨c, rfl, _⟩ := h
    rfl
  · obtain ⟨⟨⟨a, b⟩, p, q⟩, rfl, ⟨hp, hq, hl⟩, k⟩ := h
    simp only at hp hq hl k
    refine ⟨_, (pss_cons (ps_set (i := 2) sc_law_joined.nd rfl (by first | exact Or.inl rfl | exact Or.inr rfl) (pe_callTy call_dictD (by rfl) T.n_dict (by decide +kernel) (pa_cons (pv 0) pa_nil))) (pss_cons (ps_lock (ps_for PassesOwn.never rfl (pi_keys (pv 1)) (pg_name (i := 3) sc_law_joined.nd rfl (by first | exact Or.inl rfl | exact Or.inr rfl)) (pss_cons (ps_set (i := 4) sc_law_joined.nd rfl (by first | exact Or.inl rfl | exact Or.inr rfl) (pe_dget2 (hu_of hr) (pv 2) (pv 3) (pe_tup (pa_cons pe_int (pa_cons pe_int pa_nil))) (by refine ⟨?_, ?_, ?_, ?_⟩ <;> rfl))) (pss_cons (ps_set (i := 5) sc_law_joined.nd rfl (by first | exact Or.inl rfl | exact Or.inr rfl) (pe_dget (hu_of hr) (pv 1) (pv 3) (fun _ _ => rfl))) (pss_cons (ps_set (i := 6) sc_law_joined.nd rfl (by first | exact Or.inl rfl | exact Or.inr rfl) (pe_ifExp (pt_cmpR op_gt (pe_ix ix_tup (pv 5) pe_int (fun _ _ => rfl)) (pe_ix ix_tup (pv 4) pe_int (fun _ _ => rfl)) (nomark _)) (pe_ix ix_tup (pv 5) pe_int (fun _ _ => rfl)) (pe_ix ix_tup (pv 4) pe_int (fun _ _ => rfl)))) (pss_cons (ps_set (i := 7) sc_law_joined.nd rfl (by first | exact Or.inl rfl | exact Or.inr rfl) (pe_ifExp (pt_cmpR op_gt (pe_ix ix_tup (pv 5) pe_int (fun _ _ => rfl)) (pe_ix ix_tup (pv 4) pe_int (fun _ _ => rfl)) (nomark _)) (pe_ix ix_tup (pv 5) pe_int (fun _ _ => rfl)) (pe_ix ix_tup (pv 4) pe_int (fun _ _ => rfl)))) (pss_one (ps_dput (hu_of hr) (pv 2) (pv 3) (pe_tup (pa_cons (pv 6) (pa_cons (pv 7) pa_nil))) rfl)))))))) (pss_one (ps_ret (pv 2))))), ?_⟩
    obtain ⟨kp, hp1, hp2⟩ := id hp
    refine qx_asg (x_dcopy (ev_var rfl) hp1) fun v H1 e1 hv => ?_
    obtain ⟨d, rfl, hd0, hd1⟩ := hv
    have hdp : PgAt K H1 d p := ⟨kp, hd1, hp2.1.mono e1, hp2.2⟩
    obtain ⟨kvs, hk1, hk2, hk3, hk4, hk5⟩ := id hq
    have hdb : d ≠ b := fun z => by rw [z, hk1] at hd0; cases hd0
    refine q_lock (e1 _ _ hk1) fun od => ?_
    have eL : Ex (upd H b (.frz od (.dK kvs))) (upd H1 b (.frz od (.dK kvs))) := ex_upd2 e1
    have hdL : PgAt K (upd H1 b (.frz od (.dK kvs))) d p := hdp.upd (e1 _ _ hk1) hdb
    have hdF : upd H b (.frz od (.dK kvs)) d = none := by rw [upd_ne hdb]; exact hd0
    have hbF : upd H b (.frz od (.dK kvs)) b = some (.frz od (.dK kvs)) := upd_same
    have hqF : PgRd K (upd H b (.frz od (.dK kvs))) b q := hq.rd.lock hk1
    have hun : ∀ H', Ex (upd H b (.frz od (.dK kvs))) H' → Ex H (upd H' b (.dK kvs)) := fun H' e => unlock hk1 e
    generalize upd H b (.frz od (.dK kvs)) = HL at eL hdF hbF hqF hun
    refine s_forKeys (kvs := kvs) (ev_var rfl) upd_same (fun i σ' H' => ∃ r s3 s4 s5 s6 s7, σ' = [some (.ref a), some (.ref b), some (.ref d), s3, s4, s5, s6, s7] ∧ Ex HL H' ∧ PgAt K H' d r ∧ r.length ≤ p.length + i ∧ ∀ n, getP r n = joinG p (q.take i) n)
      (fun H2 e2 => ⟨p, none, none, none, none, none, rfl, eL.trans e2, hdL.mono e2, Nat.le_refl _, fun n => rfl⟩) ?_ ?_ ?_
    · rintro m σ' H' ⟨r, s3, s4, s5, s6, s7, rfl, eH, _⟩
      exact eH _ _ hbF
    · rintro i key u σ' H2 hkv ⟨r, s3, s4, s5, s6, s7, rfl, eH, hr, hrl, hrg⟩
      obtain ⟨⟨n, s⟩, hem, hkey, _⟩ := hk2.at hkv
      have hmem := List.mem_of_getElem? hem
      have hget := getP_mem hk3 _ hmem
      have hnm := hk4 _ hmem
      have htk := getP_take hk3 hem
      have hil : i < q.length := (List.getElem?_eq_some_iff.mp hem).1
      simp only at hkey hget hnm htk
      subst hkey
      refine qx_asg (x_dget2 (K := K) (s0 := (0, 0)) (ev_var rfl) (ev_var rfl) (x_tupT (K := K) (vs := [.int 0, .int 0]) (by walk_at "ev")) hr.rd) fun v H3 e3 hv => ?_
      obtain ⟨q1, rfl, hq1⟩ := hv
      have hm : getP r n = getP p n := by
        rw [hrg n]
        unfold joinG
        rw [htk.1]
      rw [hm] at hq1
      refine qx_asg (x_dget (K := K) (ev_var rfl) (ev_var rfl) (hqF.mono (eH.trans e3)) hget) fun v H4 e4 hv => ?_
      obtain ⟨q2, rfl, hq2⟩ := hv
      have hq1' := ex_t e4 hq1
      refine q_asg (v := .int (mx s.1 ((getP p n).getD (0, 0)).1)) (ev_is (by walk_at "ev") (by rw [← mx_if])) fun H5 e5 => ?_
      refine q_asg (v := .int (mx s.2 ((getP p n).getD (0, 0)).2)) (ev_is (by walk_at "ev") (by rw [← mx_if])) fun H6 e6 => ?_
      have e26 : Ex H2 H6 := ((e3.trans e4).trans e5).trans e6
      refine s_pgput (K := K) (p := r) (n := n) (s := gr s ((getP p n).getD (0, 0))) (x_tupT (K := K) (vs := [.int (mx s.1 ((getP p n).getD (0, 0)).1), .int (mx s.2 ((getP p n).getD (0, 0)).2)]) (by walk_at "ev")) (ev_var rfl) (ev_var rfl) (hr.mono e26) hnm (by omega) fun H7 ks e7 hp7 => ?_
      refine ⟨_, _, _, _, _, _, rfl, Ex.mut ((eH.trans e26).trans e7) hdF, hp7, Nat.le_trans putP_len (by omega), fun m => ?_⟩
      rw [getP_put, hrg]
      unfold joinG
      rw [htk.2 m]
      by_cases c : m = n
      · rw [if_pos c, if_pos c.symm, c]
      · rw [if_neg c, if_neg (fun z => c z.symm)]
    · rintro σ' H' ⟨r, s3, s4, s5, s6, s7, rfl, eH, hr, hrl, hrg⟩
      refine ⟨eH _ _ hbF, ?_⟩
      have hfull : q.take kvs.length = q := List.take_of_length_le (by rw [hk2.len]; exact Nat.le_refl _)
      rw [hfull] at hrg
      have hp2 := hr.updF (o := .dK kvs) (eH _ _ hbF) hdb
      dsimp only
      refine s_ret (ev_var rfl) fun H2 e2 => ?_
      exact k _ _ ((hun _ eH).trans e2) ⟨d, r, rfl, hd0, hp2.mono e2, hrg⟩
end

section
variable {P : Program} {w : World} {K : PySem.W.Frag} {mg : Str → Option Value} {base : Heap}
abbrev spLawTotal (K : PySem.W.Frag) : Sp := SpF (fun x : Addr × Pg => [.ref x.1]) (fun x H => PgAt K H x.1 x.2) (fun x _ => Is (.int (totP x.2)))
theorem sv_lawTotal {H : Hp} {a : Addr} {p : Pg} (h : PgAt K H a p) : SpV (spLawTotal K) [.ref a] H (.int (totP p)) := sv_of (sx_of (a, p) (fun _ e => h.mono e) fun _ _ _ _ _ h => h)
theorem ok_law_total (T : Txt K mg) : FnOk P w K mg base CX0 1 T.a_law_total T.d_law_total ["_law_page"] (spLawTotal K) := by
  refine T.h_law_total.F.ok sc_law_total (fun vs H Q E h => ?_) (fun cdv A outer s H vs Q E hr h => ?_)
  · obtain ⟨c, rfl, _⟩ := h
    rfl
  · obtain ⟨⟨b, q⟩, rfl, hq, k⟩ := h
    simp only at hq k
    refine ⟨_, (pss_cons (ps_set (i := 1) sc_law_total.nd rfl (by first | exact Or.inl rfl | exact Or.inr rfl) pe_int) (pss_cons (ps_lock (ps_for PassesOwn.never rfl (pi_keys (pv 0)) (pg_name (i := 2) sc_law_total.nd rfl (by first | exact Or.inl rfl | exact Or.inr rfl)) (pss_one (ps_set (i := 1) sc_law_total.nd rfl (by first | exact Or.inl rfl | exact Or.inr rfl) (pe_op op_sub (pe_op op_add (pv 1) (pe_ix ix_tup (pe_dget (hu_of hr) (pv 0) (pv 2) (fun _ _ => rfl)) pe_int (fun _ _ => rfl))) (pe_ix ix_tup (pe_dget (hu_of hr) (pv 0) (pv 2) (fun _ _ => rfl)) pe_int (fun _ _ => rfl))))))) (pss_one (ps_ret (pv 1))))), ?_⟩
    obtain ⟨kb, hb1, hb2, hb3, hb4, hb5⟩ := id hq
    refine q_asg ev_c fun H1 e1 => ?_
    have hq1 := hq.mono e1
    have hb := e1 _ _ hb1
    refine q_lock hb fun od => ?_
    have hqF : PgRd K (upd H1 b (.frz od (.dK kb))) b q := hq1.rd.lock hb
    have hbF : upd H1 b (.frz od (.dK kb)) b = some (.frz od (.dK kb)) := upd_same
    have hun : ∀ H', Ex (upd H1 b (.frz od (.dK kb))) H' → Ex H (upd H' b (.dK kb)) := fun H' e => e1.trans (unlock hb e)
    generalize upd H1 b (.frz od (.dK kb)) = HL at hqF hbF hun
    refine s_forKeys (kvs := kb) (ev_var rfl) hbF (fun i σ' H' => ∃ s2, σ' = [some (.ref b), some (.int (totP (q.take i))), s2] ∧ Ex HL H') (fun H2 e2 => ⟨none, rfl, e2⟩) ?_ ?_ ?_
    · rintro m σ' H' ⟨s2, rfl, eH⟩
      exact eH _ _ hbF
    · rintro i key u σ' H2 hkv ⟨s2, rfl, eH⟩
      obtain ⟨⟨n, s⟩, hem, hkey, _⟩ := hb2.at hkv
      have hget := getP_mem hb3 _ (List.mem_of_getElem? hem)
      simp only at hkey hget
      subst hkey
      have hx : EvX (tDGet (tVar 0) (tVar 2)) [some (.ref b), some (.int (totP (q.take i))), some (.str (ofL n))] H2 (Tp K [.int s.1, .int s.2]) := x_dget (K := K) (ev_var rfl) (ev_var rfl) (hqF.mono eH) hget
      refine s_asg (v := .int (totP (q.take (i + 1)))) ?_ fun H3 e3 => ⟨_, rfl, eH.trans e3⟩
      refine ev_is (ev_op (ev_op (ev_var rfl) (ev_ixTp hx rfl) rv_I0) (ev_ixTp hx rfl) rv_I0) ?_
      unfold totP
      rw [List.take_succ, hem, List.map_append, List.sum_append]
      show V.int _ = V.int (_ + ((s.1 - s.2) + 0))
      congr 1
      omega
    · rintro σ' H' ⟨s2, rfl, eH⟩
      refine ⟨eH _ _ hbF, ?_⟩
      have hfull : q.take kb.length = q := List.take_of_length_le (by rw [hb2.len]; exact Nat.le_refl _)
      rw [hfull]
      dsimp only
      refine s_ret (ev_var rfl) fun H2 e2 => ?_
      exact k _ _ ((hun _ eH).trans e2) rfl
end

--CUT nms
/-! ### the law's names -/
def mkK (c2 : Int) (k : Nat) : List Nat := [letter ((k : Int) * 17 + c2)] ++ [letter ((k : Int) / 26)]
def wdK (c1 : Int) (k : Nat) : List Nat := if c1 % 2 = 1 then (nameBy (c1 + 7 * (k : Int))).take 6 else (nameBy c1).take 6
def atK (c1 : Int) : Nat := if c1 % 2 = 1 then 0 else (c1 / 3 % (((nameBy c1).take 6).length + 1 : Int)).toNat
def nmK (c1 c2 : Int) (k : Nat) : Nm := ((wdK c1 k).take (atK c1) ++ mkK c2 k) ++ (wdK c1 k).drop (atK c1)
theorem letter_inj {i j : Int} (h : letter i = letter j) : i % 26 = j % 26 := by
  unfold letter at h
  have := Int.emod_nonneg i (by decide : (26 : Int) ≠ 0)
  have := Int.emod_nonneg j (by decide : (26 : Int) ≠ 0)
  omega
theorem mkK_inj {c2 : Int} {j k : Nat} (hj : j < 71) (hk : k < 71) (h : mkK c2 j = mkK c2 k) : j = k := by
  unfold mkK at h
  have h1 : letter ((j : Int) * 17 + c2) = letter ((k : Int) * 17 + c2) := (List.cons.inj h).1
  have h2 : letter ((j : Int) / 26) = letter ((k : Int) / 26) := (List.cons.inj (List.cons.inj h).2).1
  have h3 := letter_inj h1
  have h4 := letter_inj h2
  omega
theorem nmK_inj {c1 c2 : Int} {j k : Nat} (hj : j < 71) (hk : k < 71) (h : nmK c1 c2 j = nmK c1 c2 k) : j = k := by
  refine mkK_inj (c2 := c2) hj hk ?_
  unfold nmK wdK atK at h
  by_cases z : c1 % 2 = 1
  · simp only [if_pos z] at h
    exact (List.append_inj h (by simp [mkK])).1 |> fun y => by simpa using y
  · simp only [if_neg z] at h
    have h1 := (List.append_inj h (by simp [mkK])).1
    exact (List.append_inj h1 rfl).2
theorem nmK_nd {c1 c2 : Int} {n : Nat} (hn : n ≤ 70) : ((List.range n).map (nmK c1 c2)).Nodup := by
  refine List.pairwise_map.mpr ?_
  refine (List.pairwise_lt_range (n := n)).imp_of_mem fun {a b} ha hb hab z => ?_
  have := nmK_inj (by have := List.mem_range.mp ha; omega) (by have := List.mem_range.mp hb; omega) z
  omega
theorem wdK_ok (c1 : Int) (k : Nat) : (wdK c1 k).length ≤ 6 ∧ ∀ x ∈ wdK c1 k, lowC' x := by
  unfold wdK
  split
  · exact ⟨by rw [List.length_take]; omega, fun x hx => (nameBy_good _).2.2 x (List.mem_of_mem_take hx)⟩
  · exact ⟨by rw [List.length_take]; omega, fun x hx => (nameBy_good _).2.2 x (List.mem_of_mem_take hx)⟩
theorem nmK_good (c1 c2 : Int) (k : Nat) : GoodN (nmK c1 c2 k) := by
  obtain ⟨h1, h2⟩ := wdK_ok c1 k
  have hl : (nmK c1 c2 k).length = (wdK c1 k).length + 2 := by
    unfold nmK mkK
    simp only [List.length_append, List.length_take, List.length_drop, List.length_singleton]
    omega
  refine ⟨by omega, by omega, fun x hx => ?_⟩
  unfold nmK at hx
  rcases List.mem_append.mp hx with hx | hx
  · rcases List.mem_append.mp hx with hx | hx
    · exact h2 x (List.mem_of_mem_take hx)
    · unfold mkK at hx
      simp only [List.cons_append, List.nil_append, List.mem_cons, List.not_mem_nil, or_false] at hx
      rcases hx with rfl | rfl <;> exact letter_low _
  · exact h2 x (List.mem_of_mem_drop hx)
def nmL (ns : List Int) (n : Int) : List Nm := (List.range n.toNat).map (nmK (cellAt ns 1) (cellAt ns 2))
theorem nmL_len {ns : List Int} {n : Int} : (nmL ns n).length = n.toNat := by unfold nmL; rw [List.length_map, List.length_range]
theorem nmL_nd {ns : List Int} {n : Int} (h : n ≤ 70) : (nmL ns n).Nodup := nmK_nd (by omega)
theorem nmL_good {ns : List Int} {n : Int} : ∀ m ∈ nmL ns n, GoodN m := fun m hm => by
  obtain ⟨j, _, rfl⟩ := List.mem_map.mp hm
  exact nmK_good _ _ _
section
variable {H : Hp} {σ : L2.St} {ta tb : TE}
theorem ev_addL {a b : List Nat} (h1 : Ev ta σ H (.str (ofL a))) (h2 : Ev tb σ H (.str (ofL b))) (hl : a.length + b.length ≤ 100000) : Ev (tOp rAddStr ta tb) σ H (.str (ofL (a ++ b))) := ev_is (ev_op h1 h2 (rv_addStr (by rw [ofL_len, ofL_len]; exact hl))) (congrArg V.str (ofL_app a b))
end
section
variable {P : Program} {w : World} {K : PySem.W.Frag} {mg : Str → Option Value} {base : Heap}
abbrev spNames (K : PySem.W.Frag) : Sp := SpF (fun x : Addr × List Int × Int => [.ref x.1, .int x.2.2]) (fun x H => SqL K H x.1 (x.2.1.map V.int) ∧ 0 ≤ x.2.2 ∧ x.2.2 ≤ 70) (fun x H => Nw H (.lst (nmS (nmL x.2.1 x.2.2))))
theorem x_lawNames {σ : L2.St} {H : Hp} {ta tb : TE} {E : XK} {l : Addr} {ns : List Int} {n : Int} (h1 : Ev ta σ H (.ref l)) (h2 : Ev tb σ H (.int n)) (hl : SqL K H l (ns.map V.int)) (hn : 0 ≤ n ∧ n ≤ 70) : EvX (tCall (spNames K) [] E (tCons ta (tCons tb tNil))) σ H (Nw H (.lst (nmS (nmL ns n)))) := x_call2 (x_ev h1) (x_ev h2) (by
  rintro _ _ H1 e rfl rfl
  exact sx_of (l, ns, n) (fun H2 e2 => ⟨ex_l (e.trans e2) hl, hn.1, hn.2⟩) fun _ _ _ e2 _ ⟨a, h1, h2, h3⟩ => ⟨a, h1, fresh_back (e.trans e2) h2, h3⟩)
theorem ok_law_names (T : Txt K mg) : FnOk P w K mg base CX0 2 T.a_law_names T.d_law_names ["_law_script", "_law_size"] (spNames K) := by
  refine T.h_law_names.F.ok sc_law_names (fun vs H Q E h => ?_) (fun cdv A outer s H vs Q E hr h => ?_)
  · obtain ⟨c, rfl, _⟩ := h
    rfl
  · obtain ⟨⟨l, ns, n⟩, rfl, ⟨hl, hn0, hn7⟩, k⟩ := h
    simp only at hl hn0 hn7 k
    refine ⟨_, (pss_cons (ps_set (i := 2) sc_law_names.nd rfl (by first | exact Or.inl rfl | exact Or.inr rfl) (pe_call (ok_law_cell_at T) (hr.mono (by decide)) rfl T.h_law_cell_at.m T.h_law_cell_at.F.kp T.h_law_cell_at.b .nil pass0 (pa_cons (pv 0) (pa_cons pe_int pa_nil)))) (pss_cons (ps_set (i := 3) sc_law_names.nd rfl (by first | exact Or.inl rfl | exact Or.inr rfl) pe_str) (pss_cons (ps_set (i := 4) sc_law_names.nd rfl (by first | exact Or.inl rfl | exact Or.inr rfl) (pe_lst pa_nil)) (pss_cons (ps_for PassesOwn.never rfl (pi_range1 (by rfl) T.n_range (pa_cons (pv 1) pa_nil)) (pg_name (i := 5) sc_law_names.nd rfl (by first | exact Or.inl rfl | exact Or.inr rfl)) (pss_cons (ps_set (i := 6) sc_law_names.nd rfl (by first | exact Or.inl rfl | exact Or.inr rfl) (pe_op op_add_str (pe_ix ix_str (pv 3) (pe_op op_mod (pe_op op_add (pe_op op_mul (pv 5) pe_int) (pe_call (ok_law_cell_at T) (hr.mono (by decide)) rfl T.h_law_cell_at.m T.h_law_cell_at.F.kp T.h_law_cell_at.b .nil pass0 (pa_cons (pv 0) (pa_cons pe_int pa_nil)))) pe_int) (fun _ _ => rfl)) (pe_ix ix_str (pv 3) (pe_op op_fdiv (pv 5) pe_int) (fun _ _ => rfl)))) (pss_cons (ps_set (i := 7) sc_law_names.nd rfl (by first | exact Or.inl rfl | exact Or.inr rfl) (pe_slice sl_str (pe_call (ok_law_name_by T) (hr.mono (by decide)) rfl T.h_law_name_by.m T.h_law_name_by.F.kp T.h_law_name_by.b .nil pass0 (pa_cons (pv 2) pa_nil)) po_none (po_some pe_int))) (pss_cons (ps_set (i := 8) sc_law_names.nd rfl (by first | exact Or.inl rfl | exact Or.inr rfl) (pe_op op_mod (pe_op op_fdiv (pv 2) pe_int) (pe_op op_add (pe_callB call_len_str (by rfl) T.n_len PySem.boot_len (pa_cons (pv 7) pa_nil)) pe_int))) (pss_cut (ps_if (pt_cmpR op_eq (pe_op op_mod (pv 2) pe_int) pe_int (nomark _)) (pss_cons (ps_set (i := 7) sc_law_names.nd rfl (by first | exact Or.inl rfl | exact Or.inr rfl) (pe_slice sl_str (pe_call (ok_law_name_by T) (hr.mono (by decide)) rfl T.h_law_name_by.m T.h_law_name_by.F.kp T.h_law_name_by.b .nil pass0 (pa_cons (pe_op op_add (pv 2) (pe_op op_mul pe_int (pv 5))) pa_nil)) po_none (po_some pe_int))) (pss_one (ps_set (i := 8) sc_law_names.nd rfl (by first | exact Or.inl rfl | exact Or.inr rfl) pe_int))) pss_nil) (pss_one (ps_expr (pe_bm PySem.F.plainAttrs_list PySem.F.slot_list_append PySem.F.type_list_append mt_append (pv 4) (pa_cons (pe_op op_add_str (pe_op op_add_str (pe_slice sl_str (pv 7) po_none (po_some (pv 8))) (pv 6)) (pe_slice sl_str (pv 7) (po_some (pv 8)) po_none)) pa_nil))))))))) (pss_one (ps_ret (pv 4))))))), ?_⟩
    refine q_asg (v := .int (cellAt ns 1)) (by walk_at "ev") fun H1 e1 => ?_
    refine q_asg (v := .str (ofL alpha)) (ev_is ev_c (by rw [alpha_str])) fun H2 e2 => ?_
    refine q_asgL (el_lst ea_nil (by decide)) fun a H3 ha0 e3 ha3 => ?_
    have ha0' : H a = none := fresh_back (e1.trans e2) ha0
    refine q_forR1 (n := n) (ea_cons (ev_var rfl) ea_nil) ⟨hn0, by omega⟩ (fun i σ' H' => ∃ s5 s6 s7 s8, σ' = [some (.ref l), some (.int n), some (.int (cellAt ns 1)), some (.str (ofL alpha)), some (.ref a), s5, s6, s7, s8] ∧ Ex H H' ∧ H' a = some (.lst (nmS ((List.range i).map (nmK (cellAt ns 1) (cellAt ns 2))))))
      (fun H4 e4 => ⟨none, none, none, none, rfl, ((e1.trans e2).trans e3).trans e4, e4 _ _ ha3⟩) ?_ ?_
    · rintro i σ' H4 hi ⟨s5, s6, s7, s8, rfl, e4, ha4⟩
      have hl4 := ex_l e4 hl
      generalize hc1 : cellAt ns 1 = c1 at ha4 ⊢
      have hng := nameBy_good c1
      have hng2 := nameBy_good (c1 + 7 * (i : Int))
      have hix : (i : Int) / 26 % 26 = (i : Int) / 26 := Int.emod_eq_of_lt (by omega) (by omega)
      have h2 := alpha_ix ((i : Int) / 26)
      rw [hix] at h2
      refine q_asg (v := .str (ofL (mkK (cellAt ns 2) i))) ?_ fun H5 e5 => ?_
      · unfold mkK
        rw [← ofL_app]
        exact ev_op (ev_op (y := .int (((i : Int) * 17 + cellAt ns 2) % 26)) (ev_var rfl) (by walk_at "ev") (rv_ixS (by rw [ofL_len]; decide) (alpha_ix _))) (ev_op (y := .int ((i : Int) / 26)) (ev_var rfl) (by walk_at "ev") (rv_ixS (by rw [ofL_len]; decide) h2)) (rv_addStr (Nat.le_of_ble_eq_true rfl))
      have hw6 : ((nameBy c1).take 6).length ≤ 6 := by rw [List.length_take]; omega
      refine q_asg (v := .str (ofL ((nameBy c1).take 6))) (ev_slS1 (n := 6) (by walk_at "ev") ev_c (by have := hng.2.1; omega)) fun H6 e6 => ?_
      have hz : (0 : Int) < (((nameBy c1).take 6).length : Int) + 1 := by omega
      have m1 := Int.emod_nonneg (c1 / 3) (by omega : (((nameBy c1).take 6).length : Int) + 1 ≠ 0)
      have m2 := Int.emod_lt_of_pos (c1 / 3) hz
      refine q_asg (v := .int (c1 / 3 % ((((nameBy c1).take 6).length : Int) + 1))) (ev_op (ev_op (ev_var rfl) ev_c (rv_I ⟨by decide, by decide⟩)) (ev_op (ev_is (ev_cb (ea_cons (ev_var rfl) ea_nil) (rc_lenStr (by rw [ofL_len]; omega))) (by rw [ofL_len])) ev_c rv_I0) (rv_I hz)) fun H7 e7 => ?_
      refine q_cut (M := fun σ' H' => σ' = [some (.ref l), some (.int n), some (.int c1), some (.str (ofL alpha)), some (.ref a), some (.int (i : Int)), some (.str (ofL (mkK (cellAt ns 2) i))), some (.str (ofL (wdK c1 i))), some (.int (atK c1 : Int))] ∧ Ex H4 H') ?_ ?_
      · refine s_when (b := decide (V.int (c1 % 2) = V.int 1)) (by walk_at "ev") (fun hb H8 e8 => ?_) (fun hb H8 e8 => ?_)
        · have z : c1 % 2 = 1 := V.int.inj (of_decide_eq_true hb)
          refine q_asg (v := .str (ofL ((nameBy (c1 + 7 * (i : Int))).take 6))) (ev_slS1 (n := 6) (by walk_at "ev") ev_c (by have := hng2.2.1; omega)) fun H9 e9 => ?_
          refine s_asg (v := .int 0) ev_c fun H10 e10 => ⟨?_, ((((e5.trans e6).trans e7).trans e8).trans e9).trans e10⟩
          unfold wdK atK
          rw [if_pos z, if_pos z]
          rfl
        · have z : ¬ c1 % 2 = 1 := fun z => of_decide_eq_false hb (congrArg V.int z)
          refine ⟨?_, ((e5.trans e6).trans e7).trans e8⟩
          unfold wdK atK
          rw [if_neg z, if_neg z]
          have : ((c1 / 3 % ((((nameBy c1).take 6).length : Int) + 1)).toNat : Int) = c1 / 3 % ((((nameBy c1).take 6).length : Int) + 1) := Int.toNat_of_nonneg m1
          rw [this]
          rfl
      rintro σ' H8 ⟨rfl, e8⟩
      obtain ⟨w1, _⟩ := wdK_ok c1 i
      have t1 : ((wdK c1 i).take (atK c1)).length ≤ 6 := by rw [List.length_take]; omega
      have t2 : ((wdK c1 i).drop (atK c1)).length ≤ 6 := by rw [List.length_drop]; omega
      have t3 : (mkK (cellAt ns 2) i).length = 2 := rfl
      refine s_app (xs := nmS ((List.range i).map (nmK c1 (cellAt ns 2)))) (v := .str (ofL (nmK c1 (cellAt ns 2) i))) (e8 _ _ ha4) (ev_var rfl) ?_ (by unfold nmS; rw [List.length_map, List.length_map, List.length_range]; omega) fun H9 e9 => ?_
      · unfold nmK
        exact ev_addL (ev_addL (ev_slS1 (ev_var rfl) (ev_var rfl) (by omega)) (ev_var rfl) (by omega)) (ev_slS2 (ev_var rfl) (ev_var rfl) (by omega)) (by rw [List.length_append]; omega)
      · refine ⟨_, _, _, _, rfl, Ex.mut (e4.trans (e8.trans e9)) ha0', ?_⟩
        rw [upd_same, List.range_succ]
        unfold nmS
        rw [List.map_append, List.map_append]
        rfl
    · rintro σ' H4 ⟨s5, s6, s7, s8, rfl, e4, ha4⟩
      exact s_ret (ev_var rfl) fun H5 e5 => k _ _ (e4.trans e5) ⟨a, rfl, ha0', e5 _ _ ha4⟩
end

--CUT l12a
/-! ### trust, counts, what a meeting tells -/
section
variable {P : Program} {w : World} {K : PySem.W.Frag} {mg : Str → Option Value} {base : Heap}
abbrev spLTrusts (K : PySem.W.Frag) : Sp := SpF (fun x : (Addr × Nm × Nm) × List (Key × V) × (Addr × Addr) × Pg × Pg => [.ref x.1.1, .str (ofL x.1.2.1), .str (ofL x.1.2.2)]) (fun x H => H x.1.1 = some (.dK x.2.1) ∧ valV x.2.1 (.inr (ofL x.1.2.1)) = some (.ref x.2.2.1.1) ∧ valV x.2.1 (.inr (ofL x.1.2.2)) = some (.ref x.2.2.1.2) ∧ PgAt K H x.2.2.1.1 x.2.2.2.1 ∧ PgAt K H x.2.2.1.2 x.2.2.2.2)
  (fun x _ => Is (.bl (reachB ((getP x.2.2.2.1 x.1.2.1).getD (0, 0)) ((getP x.2.2.2.2 x.1.2.1).getD (0, 0)))))
theorem sv_lTrusts {H : Hp} {g d1 d2 : Addr} {kvs : List (Key × V)} {z1 z2 : Nm} {p1 p2 : Pg} (hg : H g = some (.dK kvs)) (h1 : valV kvs (.inr (ofL z1)) = some (.ref d1)) (h2 : valV kvs (.inr (ofL z2)) = some (.ref d2)) (hp1 : PgAt K H d1 p1) (hp2 : PgAt K H d2 p2) : SpV (spLTrusts K) [.ref g, .str (ofL z1), .str (ofL z2)] H (.bl (reachB ((getP p1 z1).getD (0, 0)) ((getP p2 z1).getD (0, 0)))) :=
  sv_of (sx_of ((g, z1, z2), kvs, (d1, d2), p1, p2) (fun _ e => ⟨e _ _ hg, h1, h2, hp1.mono e, hp2.mono e⟩) fun _ _ _ _ _ h => h)
theorem ok_law_trusts (T : Txt K mg) : FnOk P w K mg base CX0 1 T.a_law_trusts T.d_law_trusts ["_law_pages", "_law_name", "_law_other"] (spLTrusts K) := by
  refine T.h_law_trusts.F.ok sc_law_trusts (fun vs H Q E h => ?_) (fun cdv A outer s H vs Q E hr h => ?_)
  · obtain ⟨c, rfl, _⟩ := h
    rfl
  · obtain ⟨⟨⟨g, z1, z2⟩, kvs, ⟨d1, d2⟩, p1, p2⟩, rfl, ⟨hg, h1, h2, hp1, hp2⟩, k⟩ := h
    simp only at hg h1 h2 hp1 hp2 k
    refine ⟨_, (pss_cons (ps_set (i := 3) sc_law_trusts.nd rfl (by first | exact Or.inl rfl | exact Or.inr rfl) (pe_dget2 (hu_of hr) (pe_dget (hu_of hr) (pv 0) (pv 1) (fun _ _ => rfl)) (pv 1) (pe_tup (pa_cons pe_int (pa_cons pe_int pa_nil))) (by refine ⟨?_, ?_, ?_, ?_⟩ <;> rfl))) (pss_cons (ps_set (i := 4) sc_law_trusts.nd rfl (by first | exact Or.inl rfl | exact Or.inr rfl) (pe_dget2 (hu_of hr) (pe_dget (hu_of hr) (pv 0) (pv 2) (fun _ _ => rfl)) (pv 1) (pe_tup (pa_cons pe_int (pa_cons pe_int pa_nil))) (by refine ⟨?_, ?_, ?_, ?_⟩ <;> rfl))) (pss_one (ps_ret (pe_and (pe_cmpR op_le (pe_ix ix_tup (pv 4) pe_int (fun _ _ => rfl)) (pe_ix ix_tup (pv 3) pe_int (fun _ _ => rfl)) (nomark _)) (pe_one (pe_cmpR op_le (pe_ix ix_tup (pv 4) pe_int (fun _ _ => rfl)) (pe_ix ix_tup (pv 3) pe_int (fun _ _ => rfl)) (nomark _)))))))), ?_⟩
    refine qx_asg (x_dget2 (K := K) (s0 := (0, 0)) (ev_dgetN (ev_var rfl) (ev_var rfl) hg h1) (ev_var rfl) (x_tupT (K := K) (vs := [.int 0, .int 0]) (by walk_at "ev")) hp1.rd) ?_
    rintro v H1 e1 ⟨t1, rfl, ht1⟩
    refine qx_asg (x_dget2 (K := K) (s0 := (0, 0)) (ev_dgetN (ev_var rfl) (ev_var rfl) (e1 _ _ hg) h2) (ev_var rfl) (x_tupT (K := K) (vs := [.int 0, .int 0]) (by walk_at "ev")) (hp2.mono e1).rd) ?_
    rintro v H2 e2 ⟨t2, rfl, ht2⟩
    have ht1' := ex_t e2 ht1
    refine s_ret (v := .bl (decide (((getP p2 z1).getD (0, 0)).1 ≤ ((getP p1 z1).getD (0, 0)).1) && decide (((getP p2 z1).getD (0, 0)).2 ≤ ((getP p1 z1).getD (0, 0)).2))) (ev_andV (ev_op (ev_op (ev_var rfl) ev_c (rv_ixT ht2 rfl)) (ev_op (ev_var rfl) ev_c (rv_ixT ht1' rfl)) rv_I0) fun _ => ev_op (ev_op (ev_var rfl) ev_c (rv_ixT ht2 rfl)) (ev_op (ev_var rfl) ev_c (rv_ixT ht1' rfl)) rv_I0) fun H3 e3 => k _ _ ((e1.trans e2).trans e3) rfl
abbrev spCount (K : PySem.W.Frag) : Sp := SpF (fun x : (Addr × Addr) × Pg × Pg => [.ref x.1.1, .ref x.1.2]) (fun x H => PgAt K H x.1.1 x.2.1 ∧ PgAt K H x.1.2 x.2.2) (fun x _ => Is (.int (cnt x.2.1 x.2.2 : Int)))
theorem sv_count {H : Hp} {a b : Addr} {p q : Pg} (hp : PgAt K H a p) (hq : PgAt K H b q) : SpV (spCount K) [.ref a, .ref b] H (.int (cnt p q : Int)) := sv_of (sx_of ((a, b), p, q) (fun _ e => ⟨hp.mono e, hq.mono e⟩) fun _ _ _ _ _ h => h)
theorem ok_law_count (T : Txt K mg) : FnOk P w K mg base CX0 1 T.a_law_count T.d_law_count ["_law_one", "_law_other"] (spCount K) := by
  refine T.h_law_count.F.ok sc_law_count (fun vs H Q E h => ?_) (fun cdv A outer s H vs Q E hr h => ?_)
  · obtain ⟨c, rfl, _⟩ := h
    rfl
  · obtain ⟨⟨⟨a, b⟩, p, q⟩, rfl, ⟨hp, hq⟩, k⟩ := h
    simp only at hp hq k
    refine ⟨_, (pss_cons (ps_set (i := 2) sc_law_count.nd rfl (by first | exact Or.inl rfl | exact Or.inr rfl) pe_int) (pss_cons (ps_lock (ps_for PassesOwn.never rfl (pi_keys (pv 1)) (pg_name (i := 3) sc_law_count.nd rfl (by first | exact Or.inl rfl | exact Or.inr rfl)) (pss_cons (ps_set (i := 4) sc_law_count.nd rfl (by first | exact Or.inl rfl | exact Or.inr rfl) (pe_dget2 (hu_of hr) (pv 0) (pv 3) (pe_tup (pa_cons pe_int (pa_cons pe_int pa_nil))) (by refine ⟨?_, ?_, ?_, ?_⟩ <;> rfl))) (pss_one (ps_if (PW.pt (pw_or (pt_cmpR op_gt (pe_ix ix_tup (pe_dget (hu_of hr) (pv 1) (pv 3) (fun _ _ => rfl)) pe_int (fun _ _ => rfl)) (pe_ix ix_tup (pv 4) pe_int (fun _ _ => rfl)) (nomark _)) (pw_or1 (pt_cmpR op_gt (pe_ix ix_tup (pe_dget (hu_of hr) (pv 1) (pv 3) (fun _ _ => rfl)) pe_int (fun _ _ => rfl)) (pe_ix ix_tup (pv 4) pe_int (fun _ _ => rfl)) (nomark _))))) (pss_one (ps_set (i := 2) sc_law_count.nd rfl (by first | exact Or.inl rfl | exact Or.inr rfl) (pe_op op_add (pv 2) pe_int))) pss_nil))))) (pss_one (ps_ret (pv 2))))), ?_⟩
    obtain ⟨kb, hb1, hb2, hb3, hb4, hb5⟩ := id hq
    refine q_asg (v := .int 0) ev_c fun H1 e1 => ?_
    have hb := e1 _ _ hb1
    refine q_lock hb fun od => ?_
    have hqF : PgRd K (upd H1 b (.frz od (.dK kb))) b q := (hq.mono e1).rd.lock hb
    have hpF : PgRd K (upd H1 b (.frz od (.dK kb))) a p := (hp.mono e1).rd.lock hb
    have hbF : upd H1 b (.frz od (.dK kb)) b = some (.frz od (.dK kb)) := upd_same
    have hun : ∀ H', Ex (upd H1 b (.frz od (.dK kb))) H' → Ex H (upd H' b (.dK kb)) := fun H' e => e1.trans (unlock hb e)
    generalize upd H1 b (.frz od (.dK kb)) = HL at hqF hpF hbF hun
    refine s_forKeys (kvs := kb) (ev_var rfl) hbF (fun i σ' H' => ∃ s3 s4, σ' = [some (.ref a), some (.ref b), some (.int ((lackP p q ((q.map (·.1)).take i)).length : Int)), s3, s4] ∧ Ex HL H') (fun H2 e2 => ⟨none, none, rfl, e2⟩) ?_ ?_ ?_
    · rintro m σ' H' ⟨s3, s4, rfl, eH⟩
      exact eH _ _ hbF
    · rintro i key u σ' H2 hkv ⟨s3, s4, rfl, eH⟩
      obtain ⟨⟨n, s⟩, hem, hkey, _⟩ := hb2.at hkv
      have hget := getP_mem hb3 _ (List.mem_of_getElem? hem)
      simp only at hkey hget
      subst hkey
      have hnm : (q.map (·.1))[i]? = some n := by rw [List.getElem?_map, hem]; rfl
      have hsuc := lackP_succ (p := p) hnm hget
      refine qx_asg (x_dget2 (K := K) (s0 := (0, 0)) (ev_var rfl) (ev_var rfl) (x_tupT (K := K) (vs := [.int 0, .int 0]) (by walk_at "ev")) (hpF.mono eH)) ?_
      rintro v H3 e3 ⟨t1, rfl, ht1⟩
      have hx : ∀ {H' : Hp}, Ex H3 H' → EvX (tDGet (tVar 1) (tVar 3)) [some (.ref a), some (.ref b), some (.int ((lackP p q ((q.map (·.1)).take i)).length : Int)), some (.str (ofL n)), some (.ref t1)] H' (Tp K [.int s.1, .int s.2]) := fun e => x_dget (K := K) (ev_var rfl) (ev_var rfl) (hqF.mono ((eH.trans e3).trans e)) hget
      refine s_when (b := decide (s.1 > ((getP p n).getD (0, 0)).1) || decide (s.2 > ((getP p n).getD (0, 0)).2)) (et_or (et_test (ev_op (ev_ixTp (hx (Ex.refl _)) rfl) (ev_op (ev_var rfl) ev_c (rv_ixT ht1 rfl)) rv_I0)) fun _ => et_test (ev_op (ev_ixTp (hx (Ex.refl _)) rfl) (ev_op (ev_var rfl) ev_c (rv_ixT ht1 rfl)) rv_I0)) (fun hb H4 e4 => ?_) (fun hb H4 e4 => ?_)
      · have hr : reachB ((getP p n).getD (0, 0)) s = false := by
          unfold reachB
          simp only [Bool.or_eq_true, decide_eq_true_eq] at hb
          rw [Bool.and_eq_false_iff, decide_eq_false_iff_not, decide_eq_false_iff_not]
          omega
        refine s_asg (v := .int ((lackP p q ((q.map (·.1)).take (i + 1))).length : Int)) (ev_is (ev_op (ev_var rfl) ev_c rv_I0) ?_) fun H5 e5 => ⟨_, _, rfl, ((eH.trans e3).trans e4).trans e5⟩
        rw [hsuc, hr, if_neg Bool.false_ne_true, List.length_append]
        rfl
      · have hr : reachB ((getP p n).getD (0, 0)) s = true := by
          unfold reachB
          simp only [Bool.or_eq_false_iff, decide_eq_false_iff_not] at hb
          rw [Bool.and_eq_true, decide_eq_true_iff, decide_eq_true_iff]
          omega
        rw [hr, if_pos rfl] at hsuc
        exact ⟨some (.str (ofL n)), some (.ref t1), by rw [hsuc]; rfl, (eH.trans e3).trans e4⟩
    · rintro σ' H' ⟨s3, s4, rfl, eH⟩
      refine ⟨eH _ _ hbF, ?_⟩
      have hfull : (q.map (·.1)).take kb.length = q.map (·.1) := List.take_of_length_le (by rw [hb2.len, List.length_map]; exact Nat.le_refl _)
      rw [hfull]
      dsimp only
      exact s_ret (ev_var rfl) fun H2 e2 => k _ _ ((hun _ eH).trans e2) rfl
/-- a meeting, or why there was none -/
def spMet (K : PySem.W.Frag) (CR CH : Addr) : Sp := fun vs H Q _ => ∃ (r hd : Addr) (nm : List Nm) (ad : List Addr) (z1 z2 : Nm), vs = [.ref r, .str (ofL z1), .str (ofL z2)] ∧ RoomAt CR H r hd nm ad ∧ (∀ n ∈ nm, GoodN n) ∧ z1.length ≤ 3000 ∧ z2.length ≤ 3000 ∧
  ((look nm ad z1 = none ∨ look nm ad z2 = none) → Ret (Is (.str "name")) H Q) ∧
  ∀ x1 x2, look nm ad z1 = some x1 → look nm ad z2 = some x2 → ∃ p1 p2, HandAt K CH H x1 z1 p1 ∧ HandAt K CH H x2 z2 p2 ∧ p1.length + p2.length ≤ 400 ∧ (x1 = x2 → z1 = z2 ∧ p1 = p2) ∧
    (¬ (reachB ((getP p1 z1).getD (0, 0)) ((getP p2 z1).getD (0, 0)) = true ∧ reachB ((getP p2 z2).getD (0, 0)) ((getP p1 z2).getD (0, 0)) = true) → Ret (Is (.str "forged")) H Q) ∧
    ((reachB ((getP p1 z1).getD (0, 0)) ((getP p2 z1).getD (0, 0)) = true ∧ reachB ((getP p2 z2).getD (0, 0)) ((getP p1 z2).getD (0, 0)) = true) → ∀ H' f1 f2 t, Ex2 x1 x2 H H' → HandAt K CH H' x1 z1 f1 → HandAt K CH H' x2 z2 f2 → (∀ m, getP f1 m = cmb (getP p1 m) (getP p2 m)) → (∀ m, getP f2 m = cmb (getP p1 m) (getP p2 m)) → (∀ b o, H b = some o → HandOff CH H' x1 z1 b ∧ HandOff CH H' x2 z2 b) → SqT K H' t [.int (cnt p1 p2 : Int), .int (cnt p2 p1 : Int)] → Q (.ref t) H')
theorem ok_law_met (T : Txt K mg) : FnOk P w K mg base CX0 5 T.a_law_met T.d_law_met ["_law_room", "_law_one", "_law_other"] (spMet K T.c_Room T.c_Hand) := by
  refine T.h_law_met.F.ok sc_law_met (fun vs H Q E h => ?_) (fun cdv A outer s H vs Q E hr h => ?_)
  · obtain ⟨r, hd, nm, ad, z1, z2, rfl, _⟩ := h
    rfl
  · obtain ⟨r, hd, nm, ad, z1, z2, rfl, hR, hg, hz1, hz2, k1, k2⟩ := h
    refine ⟨_, (pss_one (ps_try_as (i := 3) rfl rfl sc_law_met.nd rfl rfl ⟨rfl, by decide, .inl T.x_GossipError.g⟩ takes0 (fun W pn xe tk _ => (pss_one (ps_ret (pe_methE (pv 0) T.cl_Room T.h_Room_meet.m (ok_Room_meet T) (hr.mono (by decide)) T.h_Room_meet.b (fun σ => passAt tk σ) (pa_cons (pv 1) (pa_cons (pv 2) pa_nil)))))) (fun a oe cls d pn hz hf => (pss_one (ps_ret (pe_callP (fp_law_kind T) (room_suite hr (by decide)) hz hf rfl T.h_law_kind.m T.h_law_kind.F.kp T.h_law_kind.b (pa_cons (pv 3) pa_nil))))))), ?_⟩
    obtain ⟨⟨dr, hr1⟩, hhd⟩ := id hR
    refine ⟨.ref r, rfl, r, dr, _, rfl, hr1, rfs_no hd (by decide +kernel), .str (ofL z1), rfl, .str (ofL z2), rfl, r, hd, nm, ad, z1, z2, rfl, hR, hg, hz1, hz2, fun hno H' e' => ?_, fun x1 x2 l1 l2 => ?_⟩
    · refine ⟨true, T.e_NoName, fun _ a' ha => ?_, fun z => by cases z⟩
      exact s_ret (v := .str "name") (ev_kind (z := "name") (ev_var rfl) T.k_NoName T.ki_NoName_NoName T.ki_NoName_NoAmount T.ki_NoName_NoPage T.ki_NoName_Forged T.ki_NoName_NoNote T.kv_NoName rfl) fun H2 e2 => k1 hno _ _ (e'.trans e2) rfl
    · obtain ⟨p1, p2, h1, h2, h3, h4, h5, h6⟩ := k2 x1 x2 l1 l2
      refine ⟨p1, p2, h1, h2, h3, h4, fun hno H' e' => ?_, h6⟩
      refine ⟨true, T.e_Forged, fun _ a' ha => ?_, fun z => by cases z⟩
      exact s_ret (v := .str "forged") (ev_kind (z := "forged") (ev_var rfl) T.k_Forged T.ki_Forged_NoName T.ki_Forged_NoAmount T.ki_Forged_NoPage T.ki_Forged_Forged T.ki_Forged_NoNote T.kv_Forged rfl) fun H2 e2 => h5 hno _ _ (e'.trans e2) rfl
abbrev spHandless (K : PySem.W.Frag) (CR : Addr) : Sp := SpF (fun x : (Addr × Addr × Nm) × List Nm × List Addr => [.ref x.1.1, .str (ofL x.1.2.2)]) (fun x H => RoomAt CR H x.1.1 x.1.2.1 x.2.1 x.2.2 ∧ (∀ n ∈ x.2.1, GoodN n) ∧ x.1.2.2.length ≤ 3000 ∧ look x.2.1 x.2.2 x.1.2.2 = none) (fun _ _ => Is (.bl true))
theorem sv_handless {CR : Addr} {H : Hp} {r hd : Addr} {nm : List Nm} {ad : List Addr} {z : Nm} (hR : RoomAt CR H r hd nm ad) (hg : ∀ n ∈ nm, GoodN n) (hz : z.length ≤ 3000) (hn : look nm ad z = none) : SpV (spHandless K CR) [.ref r, .str (ofL z)] H (.bl true) := sv_of (sx_of ((r, hd, z), nm, ad) (fun _ e => ⟨hR.mono e, hg, hz, hn⟩) fun _ _ _ _ _ h => h)
theorem ok_law_handless (T : Txt K mg) : FnOk P w K mg base CX0 3 T.a_law_handless T.d_law_handless ["_law_room", "_law_name"] (spHandless K T.c_Room) := by
  refine T.h_law_handless.F.ok sc_law_handless (fun vs H Q E h => ?_) (fun cdv A outer s H vs Q E hr h => ?_)
  · obtain ⟨c, rfl, _⟩ := h
    rfl
  · obtain ⟨⟨⟨r, hd, z⟩, nm, ad⟩, rfl, ⟨hR, hg, hz, hn⟩, k⟩ := h
    simp only at hR hg hz hn k
    refine ⟨_, (pss_cons (ps_try_as (i := 2) rfl rfl sc_law_handless.nd rfl rfl ⟨rfl, by decide, .inl T.x_GossipError.g⟩ takes0 (fun W pn xe tk _ => (pss_one (ps_expr (pe_methE (pv 0) T.cl_Room T.h_Room_hand.m (ok_Room_hand T) (hr.mono (by decide)) T.h_Room_hand.b (fun σ => passAt tk σ) (pa_cons (pv 1) pa_nil))))) (fun a oe cls d pn hz hf => (pss_one (ps_ret (pe_cmpR op_eq (pe_callP (fp_law_kind T) (room_suite hr (by decide)) hz hf rfl T.h_law_kind.m T.h_law_kind.F.kp T.h_law_kind.b (pa_cons (pv 2) pa_nil)) pe_str (nomark _)))))) (pss_one (ps_ret pe_bl))), ?_⟩
    obtain ⟨⟨dr, hr1⟩, hhd⟩ := id hR
    refine ⟨.ref r, rfl, r, dr, _, rfl, hr1, rfs_no hd (by decide +kernel), .str (ofL z), rfl, r, hd, nm, ad, z, rfl, hR, hg, hz, (fun x hx => by rw [hn] at hx; cases hx), fun _ H' e' => ?_⟩
    refine ⟨true, T.e_NoName, fun _ a' ha => ?_, fun z => by cases z⟩
    exact s_ret (v := .bl true) (ev_is (ev_op (ev_kind (z := "name") (ev_var rfl) T.k_NoName T.ki_NoName_NoName T.ki_NoName_NoAmount T.ki_NoName_NoPage T.ki_NoName_Forged T.ki_NoName_NoNote T.kv_NoName rfl) ev_c (rv_eq rfl)) (by simp)) fun H2 e2 => k _ _ (e'.trans e2) rfl
end

--CUT l12b
/-! ### names that are not there; lists that are no room -/
section
variable {K : PySem.W.Frag} {σ : L2.St} {H : Hp} {ta te ti : TE} {D : Ends} {tz : TS}
theorem x_listL {a : Addr} {xs : List V} (h : Ev ta σ H (.ref a)) (ha : SqL K H a xs) : EvX (tCB (fun xs H Q => ∃ p ys, xs = [.ref p] ∧ (SqL K H p ys ∨ SqT K H p ys) ∧ ∀ l, H l = none → Q (.ref l) (upd H l (.lst ys))) (tCons ta tNil)) σ H (Nw H (.lst xs)) := fun H1 e Q q =>
  h H1 e _ fun H2 e2 => ⟨a, xs, rfl, .inl (ex_l (e.trans e2) ha), fun p hp => q _ _ (e2.trans (Ex.new hp)) ⟨p, rfl, fresh_back e (fresh_back e2 hp), upd_same⟩⟩
theorem s_insL {l : Addr} {xs : List V} {i : Nat} {v : V} (hl : H l = some (.lst xs)) (ha : Ev ta σ H (.ref l)) (hi : Ev ti σ H (.int (i : Int))) (hv : Ev te σ H v) (hz : xs.length < 100000) (hi2 : i ≤ 100000) (k : ∀ H1, Ex H H1 → D.nx σ (upd H1 l (.lst (xs.take i ++ [v] ++ xs.drop i)))) :
    tDrop (tBM K "list" (fun x vs H Q => ∃ (l : Addr) (xs : List V) (i : Int) (y : V), x = .ref l ∧ vs = [.int i, y] ∧ H l = some (.lst xs) ∧ xs.length < sizeLine ∧ 0 ≤ i ∧ i < 2 ^ 63 ∧ Q .non (upd H l (.lst (xs.take i.toNat ++ [y] ++ xs.drop i.toNat)))) ta (tCons ti (tCons te tNil))) D σ H :=
  ha H (Ex.refl H) _ fun H1 e1 => ⟨Or.inl ⟨rfl, xs, sq_of (e1 l _ hl)⟩, hi H1 e1 _ fun H2 e2 => hv H2 (e1.trans e2) _ fun H3 e3 => ⟨l, xs, (i : Int), v, rfl, rfl, ((e1.trans e2).trans e3) _ _ hl, sz_lt hz, by omega, by omega, by
    rw [Int.toNat_natCast]
    exact k H3 ((e1.trans e2).trans e3)⟩⟩
theorem q_insL {l : Addr} {xs : List V} {i : Nat} {v : V} (hl : H l = some (.lst xs)) (ha : Ev ta σ H (.ref l)) (hi : Ev ti σ H (.int (i : Int))) (hv : Ev te σ H v) (hz : xs.length < 100000) (hi2 : i ≤ 100000) (k : ∀ H1, Ex H H1 → tz D σ (upd H1 l (.lst (xs.take i ++ [v] ++ xs.drop i)))) :
    tSeq (tDrop (tBM K "list" (fun x vs H Q => ∃ (l : Addr) (xs : List V) (i : Int) (y : V), x = .ref l ∧ vs = [.int i, y] ∧ H l = some (.lst xs) ∧ xs.length < sizeLine ∧ 0 ≤ i ∧ i < 2 ^ 63 ∧ Q .non (upd H l (.lst (xs.take i.toNat ++ [y] ++ xs.drop i.toNat)))) ta (tCons ti (tCons te tNil)))) tz D σ H := s_insL (D := { D with nx := tz D }) hl ha hi hv hz hi2 k
theorem ev_upper {z : Str} (h : Ev ta σ H (.str z)) (hl : z.length ≤ 1000) : Ev (tM0 (fun x xs H Q => ∃ a, x = .str a ∧ xs = [] ∧ a.length ≤ 5592405 ∧ Q (.str (Txt.upper a)) H) ta) σ H (.str (Txt.upper z)) := fun H1 e Q q =>
  h H1 e _ fun H2 e2 => ⟨⟨_, rfl⟩, z, rfl, rfl, by omega, q H2 e2⟩
end
theorem upper_ofL {n : List Nat} (h : ∀ x ∈ n, lowC' x) : Txt.upper (ofL n) = ofL (n.map fun c => c - 32) := by
  rw [PyProof.Rows.upper_ascii (x := ofL n) (fun c hc => by
    have := h c hc
    unfold lowC' at this
    omega)]
  refine str_ext ?_
  show ((ofL n).cps.map PyProof.Rows.up1).toList = n.map fun c => c - 32
  rw [Array.toList_map]
  show n.map _ = _
  refine List.map_congr_left fun c hc => ?_
  have := h c hc
  unfold lowC' at this
  unfold PyProof.Rows.up1
  rw [if_pos (by omega)]
/-- what the names of a room are like -/
def NmX (nm : List Nm) : Prop := (∀ n ∈ nm, GoodN n ∧ 3 ≤ n.length ∧ 97 ∈ n) ∧ ∀ n ∈ nm, n ++ n ∉ nm
theorem nmL_x {ns : List Int} {m : Int} (hm : m ≤ 24) : NmX (nmL ns m) := by
  have hw : ∀ k, 1 ≤ (wdK (cellAt ns 1) k).length := fun k => by
    unfold wdK
    split
    · have := (nameBy_good (cellAt ns 1 + 7 * (k : Int))).1
      rw [List.length_take]
      omega
    · have := (nameBy_good (cellAt ns 1)).1
      rw [List.length_take]
      omega
  have hl : ∀ k, (nmK (cellAt ns 1) (cellAt ns 2) k).length = (wdK (cellAt ns 1) k).length + 2 := fun k => by
    unfold nmK mkK
    simp only [List.length_append, List.length_take, List.length_drop, List.length_singleton]
    omega
  refine ⟨fun n hn => ?_, fun n hn hn2 => ?_⟩
  · refine ⟨nmL_good n hn, ?_⟩
    unfold nmL at hn
    obtain ⟨k, hk, rfl⟩ := List.mem_map.mp hn
    have hk2 := List.mem_range.mp hk
    refine ⟨by have := hl k; have := hw k; omega, ?_⟩
    unfold nmK mkK
    have : letter ((k : Int) / 26) = 97 := by
      unfold letter
      omega
    rw [this]
    simp
  · unfold nmL at hn hn2
    obtain ⟨k, hk, rfl⟩ := List.mem_map.mp hn
    obtain ⟨j, hj, hjk⟩ := List.mem_map.mp hn2
    have hk2 := List.mem_range.mp hk
    have hj2 := List.mem_range.mp hj
    have hlen := congrArg List.length hjk
    rw [List.length_append, hl, hl] at hlen
    by_cases z : cellAt ns 1 % 2 = 1
    · have h1 : ∀ i, nmK (cellAt ns 1) (cellAt ns 2) i = mkK (cellAt ns 2) i ++ wdK (cellAt ns 1) i := fun i => by
        unfold nmK atK
        rw [if_pos z]
        simp
      rw [h1, h1, List.append_assoc] at hjk
      have h2 := (List.append_inj hjk (by simp [mkK])).1
      have := mkK_inj (by omega) (by omega) h2
      subst this
      omega
    · have h1 : ∀ i, wdK (cellAt ns 1) i = wdK (cellAt ns 1) 0 := fun i => by
        unfold wdK
        rw [if_neg z, if_neg z]
      rw [h1 j, h1 k] at hlen
      omega
section
variable {P : Program} {w : World} {K : PySem.W.Frag} {mg : Str → Option Value} {base : Heap}
abbrev spStrange (K : PySem.W.Frag) : Sp := SpF (fun x : Addr × Int × List Nm => [.ref x.1, .int x.2.1]) (fun x H => SqL K H x.1 (nmS x.2.2) ∧ x.2.2.length ≤ 24 ∧ NmX x.2.2) (fun x _ v _ => ∃ z : Nm, v = .str (ofL z) ∧ z.length ≤ 20 ∧ z ∉ x.2.2)
theorem notGood {nm : List Nm} {z : Nm} (hx : NmX nm) {c : Nat} (hc : c ∈ z) (hl : ¬ lowC' c) : z ∉ nm := fun hm => hl ((hx.1 z hm).1.2.2 c hc)
theorem ok_law_strange (T : Txt K mg) : FnOk P w K mg base CX0 1 T.a_law_strange T.d_law_strange ["_law_names_here", "_law_cell"] (spStrange K) := by
  refine T.h_law_strange.F.ok sc_law_strange (fun vs H Q E h => ?_) (fun cdv A outer s H vs Q E hr h => ?_)
  · obtain ⟨c, rfl, _⟩ := h
    rfl
  · obtain ⟨⟨a, c, nm⟩, rfl, ⟨ha, hl, hx⟩, k⟩ := h
    simp only at ha hl hx k
    refine ⟨_, (pss_cons (ps_if (pt_cmpR op_eq (pe_callB call_len_seq (by rfl) T.n_len PySem.boot_len (pa_cons (pv 0) pa_nil)) pe_int (nomark _)) (pss_one (ps_ret pe_str)) pss_nil) (pss_cons (ps_set (i := 2) sc_law_strange.nd rfl (by first | exact Or.inl rfl | exact Or.inr rfl) (pe_ix ix_list (pv 0) (pe_op op_mod (pe_op op_fdiv (pv 1) pe_int) (pe_callB call_len_seq (by rfl) T.n_len PySem.boot_len (pa_cons (pv 0) pa_nil))) (fun _ _ => rfl))) (pss_cons (ps_set (i := 3) sc_law_strange.nd rfl (by first | exact Or.inl rfl | exact Or.inr rfl) (pe_lst (pa_cons (pe_upper (pv 2)) (pa_cons (pe_op op_add_str (pv 2) pe_str) (pa_cons (pe_op op_add_str pe_str (pv 2)) (pa_cons (pe_op op_add_str (pv 2) pe_str) (pa_cons (pe_slice sl_str (pv 2) po_none (po_some pe_int)) (pa_cons (pe_op op_add_str (pv 2) (pv 2)) (pa_cons pe_str (pa_cons pe_str (pa_cons (pe_op op_add_str (pv 2) pe_str) pa_nil))))))))))) (pss_one (ps_ret (pe_ix ix_list (pv 3) (pe_op op_mod (pv 1) pe_int) (fun _ _ => rfl))))))), ?_⟩
    have hnl : (nmS nm).length = nm.length := List.length_map ..
    have enob : V.str (Str.ofString "nobodyx") = .str (ofL [110, 111, 98, 111, 100, 121, 120]) := congrArg V.str (by decide +kernel)
    have hnob : ([110, 111, 98, 111, 100, 121, 120] : Nm) ∉ nm := fun hm => absurd (hx.1 _ hm).2.2 (by decide)
    refine q_when (b := decide (V.int (nm.length : Int) = V.int 0)) (et_test (ev_op (ev_is (ev_cb (ea_cons (ev_var rfl) ea_nil) (rc_lenL ha)) (by rw [hnl])) ev_c (rv_eq rfl))) (fun hb H1 e1 => ?_) (fun hb H1 e1 => ?_)
    · exact s_ret (ev_is ev_c enob) fun H2 e2 => k _ _ (e1.trans e2) ⟨_, rfl, by decide, hnob⟩
    have h0 : 0 < nm.length := by
      have := of_decide_eq_false hb
      by_cases z : nm.length = 0
      · rw [z] at this
        exact absurd rfl this
      · omega
    have hm : (0 : Int) < (nm.length : Int) := by omega
    have ha1 := ex_l e1 ha
    obtain ⟨i, hi0⟩ : ∃ i : Nat, c / 9 % (nm.length : Int) = (i : Int) := ⟨_, (Int.toNat_of_nonneg (Int.emod_nonneg _ (by omega))).symm⟩
    have hi1 := Int.emod_lt_of_pos (c / 9) hm
    rw [hi0] at hi1
    have hni : nm[i]? = some (nm[i]'(by omega)) := List.getElem?_eq_getElem _
    generalize nm[i]'(by omega) = n at hni
    have hat : atI (nmS nm) (i : Int) = some (.str (ofL n)) := atI_nat (by unfold nmS; rw [List.getElem?_map, hni]; rfl)
    have hmem := List.mem_of_getElem? hni
    obtain ⟨hg, h3, h97⟩ := hx.1 n hmem
    have hn8 := hg.2.1
    refine q_asg (v := .str (ofL n)) (ev_op (ev_var rfl) (ev_is (ev_op (ev_op (ev_var rfl) ev_c (rv_I ⟨by decide, by decide⟩)) (ev_is (ev_cb (ea_cons (ev_var rfl) ea_nil) (rc_lenL ha1)) (by rw [hnl])) (rv_I (by show (0 : Int) < _; omega))) (by rw [hi0])) (rv_ixL ha1 hat)) fun H2 e2 => ?_
    have vn : ∀ {H'}, Ev (tVar 2) [some (.ref a), some (.int c), some (.str (ofL n)), none] H' (.str (ofL n)) := ev_var rfl
    have e32 : V.str (Str.ofString " ") = .str (ofL [32]) := congrArg V.str (by decide +kernel)
    have e10 : V.str (Str.ofString "\n") = .str (ofL [10]) := congrArg V.str (by decide +kernel)
    have e9 : V.str (Str.ofString "\t") = .str (ofL [9]) := congrArg V.str (by decide +kernel)
    have e0 : V.str (Str.ofString "") = .str (ofL []) := rfl
    have l32 : ¬ lowC' 32 := by unfold lowC'; omega
    have l10 : ¬ lowC' 10 := by unfold lowC'; omega
    have l9 : ¬ lowC' 9 := by unfold lowC'; omega
    obtain ⟨zs, hzl, hzs, hEv⟩ : ∃ zs : List Nm, zs.length = 9 ∧ (∀ z ∈ zs, z.length ≤ 20 ∧ z ∉ nm) ∧ zs = [n.map (fun c => c - 32), n ++ [32], [32] ++ n, n ++ [10], n.take 2, n ++ n, [], [110, 111, 98, 111, 100, 121, 120], n ++ [9]] := by
      refine ⟨_, rfl, ?_, rfl⟩
      intro z hz
      simp only [List.mem_cons, List.not_mem_nil, or_false] at hz
      rcases hz with rfl | rfl | rfl | rfl | rfl | rfl | rfl | rfl | rfl
      · refine ⟨by rw [List.length_map]; omega, ?_⟩
        refine notGood hx (c := 97 - 32) (List.mem_map.mpr ⟨97, h97, rfl⟩) (by unfold lowC'; omega)
      · exact ⟨by simp; omega, notGood hx (c := 32) (by simp) l32⟩
      · exact ⟨by simp; omega, notGood hx (c := 32) (by simp) l32⟩
      · exact ⟨by simp; omega, notGood hx (c := 10) (by simp) l10⟩
      · refine ⟨by rw [List.length_take]; omega, fun hm2 => ?_⟩
        have := (hx.1 _ hm2).2.1
        rw [List.length_take] at this
        omega
      · exact ⟨by rw [List.length_append]; omega, hx.2 n hmem⟩
      · refine ⟨by simp, fun hm2 => ?_⟩
        have := (hx.1 _ hm2).2.1
        simp at this
      · exact ⟨by decide, hnob⟩
      · exact ⟨by simp; omega, notGood hx (c := 9) (by simp) l9⟩
    refine q_asgL (el_lst (vs := zs.map fun z => V.str (ofL z)) (by
      rw [hEv]
      refine ea_cons (ev_is (ev_upper vn (by rw [ofL_len]; omega)) (congrArg V.str (upper_ofL hg.2.2))) ?_
      refine ea_cons (ev_addL vn (ev_is ev_c e32) (by simp; omega)) ?_
      refine ea_cons (ev_addL (ev_is ev_c e32) vn (by simp; omega)) ?_
      refine ea_cons (ev_addL vn (ev_is ev_c e10) (by simp; omega)) ?_
      refine ea_cons (ev_slS1 (n := 2) vn ev_c (by omega)) ?_
      refine ea_cons (ev_addL vn vn (by omega)) ?_
      refine ea_cons (ev_is ev_c e0) ?_
      refine ea_cons (ev_is ev_c enob) ?_
      refine ea_cons (ev_addL vn (ev_is ev_c e9) (by simp; omega)) ?_
      exact ea_nil) (by rw [List.length_map, hzl]; decide)) fun l H3 hl0 e3 hl3 => ?_
    have m1 := Int.emod_nonneg c (by decide : (9 : Int) ≠ 0)
    have m2 := Int.emod_lt_of_pos c (by decide : (0 : Int) < 9)
    have hlt : (c % 9).toNat < zs.length := by omega
    have hz := hzs _ (List.getElem_mem hlt)
    refine s_ret (v := .str (ofL zs[(c % 9).toNat])) (ev_op (ev_var rfl) (ev_op (ev_var rfl) ev_c (rv_I (by show (0 : Int) < _; decide))) (rv_ixL (sq_of hl3) (atI_of m1 (by rw [List.getElem?_map, List.getElem?_eq_getElem hlt]; rfl)))) fun H4 e4 => k _ _ (((e1.trans e2).trans e3).trans e4) ⟨_, rfl, hz.1, hz.2⟩
end

--CUT l12c
/-! ### lists that are no room -/
section
variable {P : Program} {w : World} {K : PySem.W.Frag} {mg : Str → Option Value} {base : Heap}
theorem ty_updL {l : Addr} {xs ys : List V} {H : Hp} {v : V} {t : Value} (hl : H l = some (.lst xs)) (h : TyX K H v (.type s')) : TyX K (upd H l (.lst ys)) v (.type s') := by
  have ne : ∀ {a : Addr} {o : HO}, H a = some o → (∀ zs, o ≠ .lst zs) → upd H l (.lst ys) a = some o := fun {a o} h ho => by
    rw [upd_ne (fun z => by
      rw [z, hl] at h
      injection h with h
      exact ho _ h.symm)]
    exact h
  cases h with
  | base h =>
    cases h with
    | non => exact .base .non
    | bl b => exact .base (.bl b)
    | int i => exact .base (.int i)
    | str s => exact .base (.str s)
    | flt b => exact .base (.flt b)
    | @lst a zs h =>
      by_cases z : a = l
      · subst z
        exact .base (.lst upd_same)
      · exact .base (.lst (by rw [upd_ne z]; exact h))
    | frz h => exact .base (.frz (ne h (fun _ z => by cases z)))
    | tup h => exact .base (.tup (ne h (fun _ z => by cases z)))
    | dK h => exact .base (.dK (ne h (fun _ z => by cases z)))
    | dT h => exact .base (.dT (ne h (fun _ z => by cases z)))
  | byt b => exact .byt b
  | set h => exact .set (ne h (fun _ z => by cases z))
  | kList h c => exact .kList h c
  | kTuple h c => exact .kTuple h c
  | kDict h c => exact .kDict h c
  | fTuple h => exact .fTuple (ne h (fun _ z => by cases z))
  | fDict h => exact .fDict (ne h (fun _ z => by cases z))
theorem oddN_updL {l : Addr} {xs ys : List V} {H : Hp} {v : V} (hl : H l = some (.lst xs)) (h : OddN K v H) : OddN K v (upd H l (.lst ys)) := by
  obtain ⟨t, a, b, c⟩ := h
  refine ⟨t, a, ?_, c⟩
  rcases t with z | ⟨v2, t2⟩
  · exact b
  · exact ⟨ty_updL (t := .type t2) hl b.1, b.2⟩
theorem nmS_take (nm : List Nm) (j : Nat) : (nmS nm).take j = nmS (nm.take j) := by unfold nmS; rw [List.map_take]
theorem nmS_drop (nm : List Nm) (j : Nat) : (nmS nm).drop j = nmS (nm.drop j) := by unfold nmS; rw [List.map_drop]
theorem oddN_tup {σ : L2.St} {H : Hp} {tl : TA} {v : V} (h : EvA tl σ H [v]) : EvX (tTup tl) σ H (OddN K) := (x_tup h).imp fun v H1 _ ⟨p, ev, _, hp⟩ => by
  subst ev
  exact ⟨.inr (.ref p, "tuple"), rfl, ⟨.base (.tup hp), by decide +kernel⟩, rfl⟩
abbrev spRoomless (K : PySem.W.Frag) : Sp := SpF (fun x : Addr × Int × List Nm => [.ref x.1, .int x.2.1]) (fun x H => SqL K H x.1 (nmS x.2.2) ∧ x.2.2.length ≤ 24 ∧ x.2.2.Nodup ∧ ∀ n ∈ x.2.2, GoodN n) (fun _ _ => Is (.bl true))
theorem sv_roomless {H : Hp} {a : Addr} {c : Int} {nm : List Nm} (ha : SqL K H a (nmS nm)) (hl : nm.length ≤ 24) (hn : nm.Nodup) (hg : ∀ n ∈ nm, GoodN n) : SpV (spRoomless K) [.ref a, .int c] H (.bl true) := sv_of (sx_of (a, c, nm) (fun _ e => ⟨ex_l e ha, hl, hn, hg⟩) fun _ _ _ _ _ h => h)
theorem ok_law_roomless (T : Txt K mg) : FnOk P w K mg base CX0 6 T.a_law_roomless T.d_law_roomless ["_law_names_here", "_law_cell"] (spRoomless K) := by
  refine T.h_law_roomless.F.ok sc_law_roomless (fun vs H Q E h => ?_) (fun cdv A outer s H vs Q E hr h => ?_)
  · obtain ⟨c, rfl, _⟩ := h
    rfl
  · obtain ⟨⟨a, c, nm⟩, rfl, ⟨ha, hl, hn, hg⟩, k⟩ := h
    simp only at ha hl hn hg k
    refine ⟨_, (pss_cons (ps_set (i := 2) sc_law_roomless.nd rfl (by first | exact Or.inl rfl | exact Or.inr rfl) (pe_callTy call_list_of (by rfl) T.n_list (by decide +kernel) (pa_cons (pv 0) pa_nil))) (pss_cons (ps_set (i := 3) sc_law_roomless.nd rfl (by first | exact Or.inl rfl | exact Or.inr rfl) (pe_op op_mod (pv 1) (pe_op op_add (pe_callB call_len_seq (by rfl) T.n_len PySem.boot_len (pa_cons (pv 2) pa_nil)) pe_int))) (pss_cons (ps_set (i := 4) sc_law_roomless.nd rfl (by first | exact Or.inl rfl | exact Or.inr rfl) (pe_lst (pa_cons pe_str (pa_cons pe_str (pa_cons pe_int (pa_cons pe_non (pa_cons pe_str (pa_cons pe_str (pa_cons pe_str (pa_cons pe_bl (pa_cons pe_str (pa_cons pe_str (pa_cons (pe_tup (pa_cons pe_str pa_nil)) (pa_cons (pe_lst (pa_cons pe_str pa_nil)) pa_nil)))))))))))))) (pss_cons (ps_expr (pe_bm PySem.F.plainAttrs_list PySem.F.slot_list_insert PySem.F.type_list_insert mt_insert (pv 2) (pa_cons (pv 3) (pa_cons (pe_ix ix_list (pv 4) (pe_op op_mod (pe_op op_fdiv (pv 1) pe_int) pe_int) (fun _ _ => rfl)) pa_nil)))) (pss_cut (ps_if (PW.pt (pw_and (pt_cmpR op_gt (pe_callB call_len_seq (by rfl) T.n_len PySem.boot_len (pa_cons (pv 0) pa_nil)) pe_int (nomark _)) (pw_and1 (pt_cmpR op_eq (pe_op op_mod (pv 1) pe_int) pe_int (nomark _))))) (pss_cons (ps_set (i := 2) sc_law_roomless.nd rfl (by first | exact Or.inl rfl | exact Or.inr rfl) (pe_callTy call_list_of (by rfl) T.n_list (by decide +kernel) (pa_cons (pv 0) pa_nil))) (pss_one (ps_expr (pe_bm PySem.F.plainAttrs_list PySem.F.slot_list_insert PySem.F.type_list_insert mt_insert (pv 2) (pa_cons (pv 3) (pa_cons (pe_ix ix_list (pv 0) (pe_op op_mod (pe_op op_fdiv (pv 1) pe_int) (pe_callB call_len_seq (by rfl) T.n_len PySem.boot_len (pa_cons (pv 0) pa_nil))) (fun _ _ => rfl)) pa_nil)))))) pss_nil) (pss_cons (ps_try_as (i := 5) rfl rfl sc_law_roomless.nd rfl rfl ⟨rfl, by decide, .inl T.x_GossipError.g⟩ takes0 (fun W pn xe tk _ => (pss_one (ps_expr (pe_makeE T.mk_Room (ok_Room_init T) (hr.mono (by decide)) (by rfl) T.g_Room T.h_Room_init.b (fun σ => passAt tk σ) (pa_cons (pv 2) pa_nil))))) (fun a oe cls d pn hz hf => (pss_one (ps_ret (pe_cmpR op_eq (pe_callP (fp_law_kind T) (room_suite hr (by decide)) hz hf rfl T.h_law_kind.m T.h_law_kind.F.kp T.h_law_kind.b (pa_cons (pv 5) pa_nil)) pe_str (nomark _)))))) (pss_one (ps_ret pe_bl)))))))), ?_⟩
    have hnl : (nmS nm).length = nm.length := List.length_map ..
    refine qx_asg (x_listL (K := K) (ev_var rfl) ha) ?_
    rintro v H1 e1 ⟨l, rfl, hl0, hl1⟩
    have hz : (0 : Int) < (nm.length : Int) + 1 := by omega
    refine q_asg (v := .int (c % ((nm.length : Int) + 1))) (ev_op (ev_var rfl) (ev_op (ev_is (ev_cb (ea_cons (ev_var rfl) ea_nil) (rc_lenL (sq_of hl1))) (by rw [hnl])) ev_c rv_I0) (rv_I (by show (0 : Int) < _; omega))) fun H2 e2 => ?_
    obtain ⟨j, hj0⟩ : ∃ j : Nat, c % ((nm.length : Int) + 1) = (j : Int) := ⟨_, (Int.toNat_of_nonneg (Int.emod_nonneg _ (by omega))).symm⟩
    have hj1 := Int.emod_lt_of_pos c hz
    rw [hj0] at hj1 ⊢
    have no : ∀ {s : Str}, nameOk s = false → s.cps.toList.length ≤ 30000 → ∀ {σ : L2.St} {H' : Hp}, EvX (tC (.str s)) σ H' (OddN K) := fun h h2 => x_is ev_c (oddN_str h2 h)
    refine qx_asg (x_lstA (P := OddN K) (n := 12) ?_ (by decide)) ?_
    · refine axA_cons (no (by decide +kernel) (by decide +kernel)) ?_
      refine axA_cons (no (by decide +kernel) (by decide +kernel)) ?_
      refine axA_cons (x_is ev_c (oddN_ty (t := "int") (.base (.int _)) (by decide +kernel))) ?_
      refine axA_cons (x_is ev_c (oddN_ty (t := "NoneType") (.base .non) (by decide +kernel))) ?_
      refine axA_cons (no (by decide +kernel) (by decide +kernel)) ?_
      refine axA_cons (no (by decide +kernel) (by decide +kernel)) ?_
      refine axA_cons (no (by decide +kernel) (by decide +kernel)) ?_
      refine axA_cons (x_is ev_c (oddN_ty (t := "bool") (.base (.bl _)) (by decide +kernel))) ?_
      refine axA_cons (no (by decide +kernel) (by decide +kernel)) ?_
      refine axA_cons (no (by decide +kernel) (by decide +kernel)) ?_
      refine axA_cons (oddN_tup (ea_cons ev_c ea_nil)) ?_
      refine axA_cons (oddN_list (ea_cons ev_c ea_nil)) ?_
      exact axA_nil
    rintro v H3 e3 ⟨o, vs, rfl, ho0, ho, hvl, hall⟩
    have m1 := Int.emod_nonneg (c / 99) (by decide : (12 : Int) ≠ 0)
    have m2 := Int.emod_lt_of_pos (c / 99) (by decide : (0 : Int) < 12)
    have hlt : (c / 99 % 12).toNat < vs.length := by omega
    have hodd := hall _ (List.getElem_mem hlt)
    have hat : atI vs (c / 99 % 12) = some vs[(c / 99 % 12).toNat] := atI_of m1 (List.getElem?_eq_getElem hlt)
    generalize vs[(c / 99 % 12).toNat] = u at hodd hat
    have hl3 := e3 _ _ (e2 _ _ hl1)
    refine q_insL (K := K) (i := j) (v := u) hl3 (ev_var rfl) (ev_var rfl) (ev_op (ev_var rfl) (ev_op (ev_op (ev_var rfl) ev_c (rv_I ⟨by decide, by decide⟩)) ev_c (rv_I (by show (0 : Int) < _; decide))) (rv_ixL (sq_of ho) hat)) (by rw [hnl]; omega) (by omega) fun H4 e4 => ?_
    have hl4 := e4 _ _ hl3
    have hl0' : H l = none := hl0
    refine q_cut (M := fun σ' H' => ∃ s3 s4 l' pr v rest, σ' = [some (.ref a), some (.int c), some (.ref l'), s3, s4, none] ∧ Ex H H' ∧ H' l' = some (.lst (nmS pr ++ v :: rest)) ∧ pr.Nodup ∧ (∀ n ∈ pr, GoodN n) ∧ pr.length ≤ 30 ∧ (OddN K v H' ∨ ∃ n ∈ pr, v = .str (ofL n))) ?_ ?_
    · have eU : Ex H (upd H4 l (.lst ((nmS nm).take j ++ [u] ++ (nmS nm).drop j))) := Ex.mut (((e1.trans e2).trans e3).trans e4) hl0'
      have hlU : upd H4 l (.lst ((nmS nm).take j ++ [u] ++ (nmS nm).drop j)) l = some (.lst ((nmS nm).take j ++ [u] ++ (nmS nm).drop j)) := upd_same
      have hoddU : OddN K u (upd H4 l (.lst ((nmS nm).take j ++ [u] ++ (nmS nm).drop j))) := oddN_updL hl4 (Mono.mono e4 hodd)
      generalize upd H4 l (.lst ((nmS nm).take j ++ [u] ++ (nmS nm).drop j)) = HU at eU hlU hoddU
      have haU := ex_l eU ha
      have elen : ∀ {H' : Hp} {σ : L2.St}, Ex HU H' → σ[0]? = some (some (.ref a)) → Ev (tCB (rLenS K) (tCons (tVar 0) tNil)) σ H' (.int (nm.length : Int)) := fun e h => ev_is (ev_cb (ea_cons (ev_var h) ea_nil) (rc_lenL (ex_l e haU))) (by rw [hnl])
      refine s_when (b := decide ((nm.length : Int) > 0) && decide (V.int (c % 2) = V.int 0)) (et_and (et_test (ev_op (elen (Ex.refl _) rfl) ev_c rv_I0)) fun _ => by walk_at "ev") (fun hb H5 e5 => ?_) (fun hb H5 e5 => ?_)
      · rw [Bool.and_eq_true] at hb
        have h0 : 0 < nm.length := by
          have := of_decide_eq_true hb.1
          omega
        have haH5 := ex_l e5 haU
        refine qx_asg (x_listL (K := K) (ev_var rfl) haH5) ?_
        rintro v H6 e6 ⟨l2, rfl, hl20, hl21⟩
        obtain ⟨i, hi0⟩ : ∃ i : Nat, c / 99 % (nm.length : Int) = (i : Int) := ⟨_, (Int.toNat_of_nonneg (Int.emod_nonneg _ (by omega))).symm⟩
        have hi1 := Int.emod_lt_of_pos (c / 99) (by omega : (0 : Int) < (nm.length : Int))
        rw [hi0] at hi1
        have hni : nm[i]? = some (nm[i]'(by omega)) := List.getElem?_eq_getElem _
        generalize hnn : nm[i]'(by omega) = n at hni
        have hatn : atI (nmS nm) (i : Int) = some (.str (ofL n)) := atI_nat (by unfold nmS; rw [List.getElem?_map, hni]; rfl)
        refine s_insL (K := K) (i := j) (v := .str (ofL n)) hl21 (ev_var rfl) (ev_var rfl) (ev_op (ev_var rfl) (ev_is (ev_op (ev_op (ev_var rfl) ev_c (rv_I ⟨by decide, by decide⟩)) (elen (e5.trans e6) rfl) (rv_I (by show (0 : Int) < _; omega))) (by rw [hi0])) (rv_ixL (ex_l e6 haH5) hatn)) (by rw [hnl]; omega) (by omega) fun H7 e7 => ?_
        have hl20' : H l2 = none := fresh_back (eU.trans e5) hl20
        have hgn := hg n (List.mem_of_getElem? hni)
        have eF : Ex H (upd H7 l2 (.lst ((nmS nm).take j ++ [.str (ofL n)] ++ (nmS nm).drop j))) := Ex.mut (((eU.trans e5).trans e6).trans e7) hl20'
        by_cases hij : i < j
        · refine ⟨_, _, l2, nm.take j, .str (ofL n), nmS (nm.drop j), rfl, eF, ?_, hn.sublist (List.take_sublist _ _), fun m hm => hg m (List.mem_of_mem_take hm), by rw [List.length_take]; omega, .inr ⟨n, ?_, rfl⟩⟩
          · rw [upd_same, nmS_take, nmS_drop, List.append_assoc]
            rfl
          · exact List.mem_of_getElem? (by rw [List.getElem?_take_of_lt hij]; exact hni)
        · have hsp : nm.drop j = ((nm.drop j).take (i - j)) ++ n :: nm.drop (i + 1) := by
            have h1 : (nm.drop j)[i - j]? = some n := by
              rw [List.getElem?_drop, show j + (i - j) = i by omega]
              exact hni
            have h2 := List.take_append_drop (i - j) (nm.drop j)
            have h3 : (nm.drop j).drop (i - j) = n :: nm.drop (i + 1) := by
              rw [List.drop_drop, show j + (i - j) = i by omega, List.drop_eq_getElem_cons (by omega), hnn]
            rw [h3] at h2
            exact h2.symm
          have hall2 : nm = nm.take j ++ ((nm.drop j).take (i - j) ++ n :: nm.drop (i + 1)) := by rw [← hsp, List.take_append_drop]
          have hn2 := hn
          rw [hall2, List.nodup_append, List.nodup_append, List.nodup_cons] at hn2
          obtain ⟨d1, ⟨d2, ⟨d3, d4⟩, d5⟩, d6⟩ := hn2
          refine ⟨_, _, l2, nm.take j ++ [n] ++ (nm.drop j).take (i - j), .str (ofL n), nmS (nm.drop (i + 1)), rfl, eF, ?_, ?_, ?_, ?_, .inr ⟨n, by simp, rfl⟩⟩
          · rw [upd_same, nmS_take, nmS_drop]
            congr 2
            rw [show nmS (nm.drop j) = nmS ((nm.drop j).take (i - j)) ++ (V.str (ofL n) :: nmS (nm.drop (i + 1))) by
              conv => lhs; rw [hsp]
              unfold nmS
              rw [List.map_append, List.map_cons]]
            unfold nmS
            rw [List.map_append, List.map_append]
            simp
          · rw [List.append_assoc, List.nodup_append]
            refine ⟨d1, ?_, ?_⟩
            · rw [List.singleton_append, List.nodup_cons]
              exact ⟨fun hm => d5 _ hm _ List.mem_cons_self rfl, d2⟩
            · intro x hx y hy
              rw [List.singleton_append] at hy
              rcases List.mem_cons.mp hy with rfl | hy
              · exact d6 _ hx _ (List.mem_append_right _ List.mem_cons_self)
              · exact d6 _ hx _ (List.mem_append_left _ hy)
          · intro x hx
            rcases List.mem_append.mp hx with hx | hx
            · rcases List.mem_append.mp hx with hx | hx
              · exact hg x (List.mem_of_mem_take hx)
              · rw [List.mem_singleton.mp hx]
                exact hgn
            · exact hg x (List.mem_of_mem_drop (List.mem_of_mem_take hx))
          · simp only [List.length_append, List.length_take, List.length_drop, List.length_singleton]
            omega
      · refine ⟨_, _, l, nm.take j, u, nmS (nm.drop j), rfl, eU.trans e5, ?_, hn.sublist (List.take_sublist _ _), fun m hm => hg m (List.mem_of_mem_take hm), by rw [List.length_take]; omega, .inl (Mono.mono e5 hoddU)⟩
        rw [e5 _ _ hlU, nmS_take, nmS_drop, List.append_assoc]
        rfl
    rintro σ' H5 ⟨s3, s4, l', pr, v, rest, rfl, e5, hl5, hpn, hpg, hpl, hbad⟩
    refine ⟨.ref l', rfl, fun x dx hx hdx hne => ?_⟩
    have eU : Ex H5 (upd (upd H5 dx (.own x)) x (.ins T.c_Room dx [])) := (Ex.new hdx).trans (Ex.new (by rw [upd_ne (Ne.symm hne)]; exact hx))
    refine ⟨x, dx, l', pr, v :: rest, rfl, upd_same, sq_of (eU _ _ hl5), by omega, hpn, hpg, .inr ⟨v, rest, rfl, hbad.imp (fun h => Mono.mono eU h) id, fun H' eX => ?_⟩⟩
    refine ⟨true, T.e_NoName, fun _ a' ha => ?_, fun z => by cases z⟩
    have eA : Ex H5 H' := fun b o hb => eX _ _ (eU _ _ hb) (fun z => by rw [z, hx] at hb; cases hb)
    exact s_ret (v := .bl true) (ev_is (ev_op (ev_kind (z := "name") (ev_var rfl) T.k_NoName T.ki_NoName_NoName T.ki_NoName_NoAmount T.ki_NoName_NoPage T.ki_NoName_Forged T.ki_NoName_NoNote T.kv_NoName rfl) ev_c (rv_eq rfl)) (by simp)) fun H2 e2 => k _ _ ((e5.trans eA).trans e2) rfl
end

--CUT l12d
/-! ### the room beside the law's own pages -/
structure SR (nm : List Nm) (ad : List Addr) : Prop where
  nd : nm.Nodup
  gx : NmX nm
  le : nm.length ≤ 24
  la : ad.length = nm.length
  an : ad.Nodup
def PgB (nm : List Nm) (N : Nat) (p : Pg) : Prop := ∀ e ∈ p, e.1 ∈ nm ∧ ShPos e.2 ∧ e.2.1 ≤ 1000 * (N : Int) ∧ e.2.2 ≤ 1000 * (N : Int)
structure Wr (K : PySem.W.Frag) (CR CH : Addr) (nm : List Nm) (ad : List Addr) (r hdt pgs : Addr) (N : Nat) (q : Nat → Pg) (H : Hp) : Prop where
  room : RoomAt CR H r hdt nm ad
  hand : ∀ (i : Nat) n x, nm[i]? = some n → ad[i]? = some x → (∃ p, HandAt K CH H x n p ∧ GE p (q i)) ∧ HandOff CH H x n hdt ∧ HandOff CH H x n pgs
  law : ∃ ld : List Addr, ld.length = nm.length ∧ H pgs = some (.dK (roomK nm ld)) ∧ ∀ (i : Nat) d, ld[i]? = some d → PgAt K H d (q i) ∧ d ≠ pgs
  bd : ∀ i, i < nm.length → PgB nm N (q i)
  ne : hdt ≠ pgs
  n7 : N ≤ 70
theorem SR.gd {nm : List Nm} {ad : List Addr} (st : SR nm ad) : ∀ n ∈ nm, GoodN n := fun n hn => (st.gx.1 n hn).1
theorem pgB_good {nm : List Nm} {N : Nat} {p : Pg} (hg : ∀ n ∈ nm, GoodN n) (hN : N ≤ 71) (h : PgB nm N p) : PgGood p := fun e he => by
  obtain ⟨h1, h2, h3, h4⟩ := h e he
  refine ⟨hg _ h1, h2, ?_, ?_⟩
  · show e.2.1 < BIG
    unfold BIG
    omega
  · show e.2.2 < BIG
    unfold BIG
    omega
theorem pgB_len {nm : List Nm} {N : Nat} {p : Pg} (h : PgB nm N p) (hn : (p.map (·.1)).Nodup) : p.length ≤ nm.length := by
  have := nodup_len hn fun n hn => by
    obtain ⟨e, he, rfl⟩ := List.mem_map.mp hn
    exact (h e he).1
  rw [List.length_map] at this
  exact this
theorem ge_len {p q : Pg} (hp : (p.map (·.1)).Nodup) (hq : (q.map (·.1)).Nodup) (h : GE p q) : p.length = q.length := by
  have := (ge_names hp hq h).length_eq
  rw [List.length_map, List.length_map] at this
  exact this
theorem PgAt.nd {K : PySem.W.Frag} {H : Hp} {d : Addr} {p : Pg} (h : PgAt K H d p) : (p.map (·.1)).Nodup := let ⟨_, _, _, z, _⟩ := h; z
theorem HandAt.nd {K : PySem.W.Frag} {C : Addr} {H : Hp} {x : Addr} {n : Nm} {p : Pg} (h : HandAt K C H x n p) : (p.map (·.1)).Nodup := let ⟨_, _, _, a, _⟩ := h; a.nd
theorem HandAt.pos {K : PySem.W.Frag} {C : Addr} {H : Hp} {x : Addr} {n : Nm} {p : Pg} (h : HandAt K C H x n p) : PgPos p := let ⟨_, _, _, _, a, _⟩ := h; a
theorem at_sameA {l : List Addr} (hn : l.Nodup) {i j : Nat} {x : Addr} (hi : l[i]? = some x) (hj : l[j]? = some x) : i = j := by
  obtain ⟨h1, h2⟩ := List.getElem?_eq_some_iff.mp hi
  obtain ⟨h3, h4⟩ := List.getElem?_eq_some_iff.mp hj
  have hp := List.pairwise_iff_getElem.mp hn
  rcases Nat.lt_trichotomy i j with z | z | z
  · exact absurd (h2.trans h4.symm) (hp i j h1 h3 z)
  · exact z
  · exact absurd (h4.trans h2.symm) (hp j i h3 h1 z)
theorem nm_inj {nm : List Nm} (hn : nm.Nodup) {i j : Nat} {n : Nm} (hi : nm[i]? = some n) (hj : nm[j]? = some n) : i = j := by
  obtain ⟨h1, h2⟩ := List.getElem?_eq_some_iff.mp hi
  obtain ⟨h3, h4⟩ := List.getElem?_eq_some_iff.mp hj
  have hp := List.pairwise_iff_getElem.mp hn
  rcases Nat.lt_trichotomy i j with z | z | z
  · exact absurd (h2.trans h4.symm) (hp i j h1 h3 z)
  · exact z
  · exact absurd (h4.trans h2.symm) (hp j i h3 h1 z)
theorem roomK_put : ∀ {nm : List Nm} {ld : List Addr} {i : Nat} {n : Nm} {d : Addr}, nm.Nodup → ld.length = nm.length → nm[i]? = some n → putK (roomK nm ld) (.inr (ofL n)) (.ref d) = roomK nm (ld.set i d) := by
  intro nm ld i n d hn hl hi
  have hlt : i < nm.length := (List.getElem?_eq_some_iff.mp hi).1
  have hx : ld[i]? = some (ld[i]'(by omega)) := List.getElem?_eq_getElem _
  have hv := room_val nm ld n
  rw [look_at hn hi hx] at hv
  unfold putK
  rw [valV_any, hv, if_pos (show (Option.map V.ref (some (ld[i]'(by omega)))).isSome = true from rfl)]
  refine List.ext_getElem? fun k => ?_
  unfold roomK
  rw [List.getElem?_map, List.getElem?_map, List.getElem?_map]
  cases c : nm[k]? with
  | none =>
    have h1 : (nm.zip ld)[k]? = none := by
      rw [List.getElem?_eq_none_iff] at c ⊢
      rw [List.length_zip]
      omega
    have h2 : (nm.zip (ld.set i d))[k]? = none := by
      rw [List.getElem?_eq_none_iff] at c ⊢
      rw [List.length_zip]
      omega
    rw [h1, h2]
    rfl
  | some m =>
    have hk : k < nm.length := (List.getElem?_eq_some_iff.mp c).1
    have hy : ld[k]? = some (ld[k]'(by omega)) := List.getElem?_eq_getElem _
    have h1 : (nm.zip ld)[k]? = some (m, ld[k]'(by omega)) := List.getElem?_zip_eq_some.mpr ⟨c, hy⟩
    rw [h1]
    by_cases z : k = i
    · subst z
      rw [hi] at c
      obtain rfl := Option.some.inj c
      have h2 : (nm.zip (ld.set k d))[k]? = some (n, d) := List.getElem?_zip_eq_some.mpr ⟨hi, List.getElem?_set_self (by omega)⟩
      rw [h2]
      show some (if _ then _ else _) = _
      rw [if_pos rfl]
      rfl
    · have h2 : (nm.zip (ld.set i d))[k]? = some (m, ld[k]'(by omega)) := List.getElem?_zip_eq_some.mpr ⟨c, by rw [List.getElem?_set_ne (Ne.symm z)]; exact hy⟩
      rw [h2]
      show some (if _ then _ else _) = _
      rw [if_neg]
      · rfl
      · intro w
        have : m = n := ofL_inj (Sum.inr.inj w)
        rw [this] at c
        exact z (nm_inj hn c hi)
section
variable {K : PySem.W.Frag} {CR CH : Addr} {nm : List Nm} {ad : List Addr} {r hdt pgs : Addr} {N N' : Nat} {q q' : Nat → Pg} {H H' : Hp}
theorem Wr.mono (e : Ex H H') (h : Wr K CR CH nm ad r hdt pgs N q H) : Wr K CR CH nm ad r hdt pgs N q H' where
  room := h.room.mono e
  hand := fun i n x a b => by
    obtain ⟨⟨p, h1, h2⟩, h3, h4⟩ := h.hand i n x a b
    exact ⟨⟨p, h1.mono e, h2⟩, h3.mono h1 e, h4.mono h1 e⟩
  law := let ⟨ld, a, b, c⟩ := h.law; ⟨ld, a, e _ _ b, fun i d hd => ⟨(c i d hd).1.mono e, (c i d hd).2⟩⟩
  bd := h.bd
  ne := h.ne
  n7 := h.n7
def FrW (ad : List Addr) (pgs : Addr) (H H' : Hp) : Prop := ∀ a o, H a = some o → a ∉ ad → a ≠ pgs → H' a = some o
theorem Wr.keepT (st : SR nm ad) (h : Wr K CR CH nm ad r hdt pgs N q H) (f : FrW ad pgs H H') {t : Addr} {xs : List V} (ht : SqT K H t xs) : SqT K H' t xs := by
  obtain ⟨ld, _, hp, _⟩ := h.law
  have hins : ∀ {a}, a ∈ ad → ∃ dx fs, H a = some (.ins CH dx fs) := fun {a} ha => by
    obtain ⟨j, hj1, hj2⟩ := List.getElem_of_mem ha
    have h1 : j < nm.length := by rw [← st.la]; exact hj1
    obtain ⟨⟨p, ⟨dx, pd, u, _⟩, _⟩, _⟩ := h.hand j _ a (List.getElem?_eq_getElem h1) (by rw [List.getElem?_eq_getElem hj1, hj2])
    exact ⟨dx, _, u⟩
  rcases ht with (ht | ⟨o, ht⟩) | ht
  · exact .inl (.inl (f _ _ ht (fun z => by obtain ⟨dx, fs, u⟩ := hins z; rw [u] at ht; cases ht) (fun z => by rw [z, hp] at ht; cases ht)))
  · exact .inl (.inr ⟨o, f _ _ ht (fun z => by obtain ⟨dx, fs, u⟩ := hins z; rw [u] at ht; cases ht) (fun z => by rw [z, hp] at ht; cases ht)⟩)
  · exact .inr ht
theorem Wr.isIns (st : SR nm ad) (h : Wr K CR CH nm ad r hdt pgs N q H) {a : Addr} (ha : a ∈ ad) : ∃ dx fs, H a = some (.ins CH dx fs) := by
  obtain ⟨j, hj1, hj2⟩ := List.getElem_of_mem ha
  have h1 : j < nm.length := by rw [← st.la]; exact hj1
  obtain ⟨⟨p, ⟨dx, pd, u, _⟩, _⟩, _⟩ := h.hand j _ a (List.getElem?_eq_getElem h1) (by rw [List.getElem?_eq_getElem hj1, hj2])
  exact ⟨dx, _, u⟩
theorem Wr.keepP (st : SR nm ad) (h : Wr K CR CH nm ad r hdt pgs N q H) (f : FrW ad pgs H H') {d : Addr} {p : Pg} (hp : PgAt K H d p) (hd : d ≠ pgs) : PgAt K H' d p := by
  obtain ⟨kv, h1, h2, h3⟩ := hp
  exact ⟨kv, f _ _ h1 (fun z => by obtain ⟨dx, fs, u⟩ := h.isIns st z; rw [u] at h1; cases h1) hd, h2.to fun _ _ ht => h.keepT st f ht, h3⟩
theorem Wr.step (st : SR nm ad) (h : Wr K CR CH nm ad r hdt pgs N q H) (I : Nat → Prop) (hr : r ∉ ad ∧ r ≠ pgs)
    (eS : ∀ a o, H a = some o → (∀ i, I i → ad[i]? ≠ some a) → a ≠ pgs → H' a = some o)
    (hand' : ∀ (i : Nat) n x, I i → nm[i]? = some n → ad[i]? = some x → (∃ p, HandAt K CH H' x n p ∧ GE p (q' i)) ∧ HandOff CH H' x n hdt ∧ HandOff CH H' x n pgs)
    (qs : ∀ i, ¬ I i → q' i = q i)
    (law' : ∃ ld : List Addr, ld.length = nm.length ∧ H' pgs = some (.dK (roomK nm ld)) ∧ ∀ (i : Nat) d, ld[i]? = some d → PgAt K H' d (q' i) ∧ d ≠ pgs)
    (bd' : ∀ i, i < nm.length → PgB nm N' (q' i)) (n7' : N' ≤ 70) : Wr K CR CH nm ad r hdt pgs N' q' H' := by
  have f : FrW ad pgs H H' := fun a o ha h1 h2 => eS a o ha (fun i _ hi => h1 (List.mem_of_getElem? hi)) h2
  obtain ⟨ld, _, hpg, _⟩ := h.law
  obtain ⟨⟨dr, hr1⟩, hhd⟩ := h.room
  refine ⟨⟨⟨dr, f _ _ hr1 hr.1 hr.2⟩, f _ _ hhd (fun z => by obtain ⟨dx, fs, u⟩ := h.isIns st z; rw [u] at hhd; cases hhd) h.ne⟩, fun i n x hi hx => ?_, law', bd', h.ne, n7'⟩
  by_cases hI : I i
  · exact hand' i n x hI hi hx
  · obtain ⟨⟨p, hp, hge⟩, o1, o2⟩ := h.hand i n x hi hx
    obtain ⟨dx, pd, u1, u2, u3⟩ := id hp
    have hx' : H' x = some (.ins CH dx (Hfs n pd)) := eS _ _ u1 (fun j hj hjx => hI (by rw [at_sameA st.an hx hjx]; exact hj)) (fun z => by rw [z, hpg] at u1; cases u1)
    rw [qs i hI]
    exact ⟨⟨p, ⟨dx, pd, hx', h.keepP st f u2 (o2 dx pd u1), u3⟩, hge⟩, o1.to u1 hx', o2.to u1 hx'⟩
end
theorem look_iff {nm : List Nm} {ad : List Addr} {z : Nm} (hl : ad.length = nm.length) (hn : nm.Nodup) : look nm ad z = none ↔ z ∉ nm :=
  ⟨(fun h hm => by obtain ⟨_, _, _, _, h2⟩ := look_mem hl hn hm; rw [h] at h2; cases h2), look_none⟩
theorem look_ld {nm : List Nm} {ad ld : List Addr} {z : Nm} (hl : ad.length = nm.length) (hl2 : ld.length = nm.length) (hn : nm.Nodup) : (look nm ld z).isSome = (look nm ad z).isSome := by
  by_cases h : z ∈ nm
  · obtain ⟨_, _, _, _, h1⟩ := look_mem hl hn h
    obtain ⟨_, _, _, _, h2⟩ := look_mem hl2 hn h
    rw [h1, h2]
    rfl
  · rw [look_none h, look_none h]
theorem m_call3 {sp : Sp} {σ : L2.St} {H : Hp} {a1 a2 a3 : TE} {Q : VK} {E : XK} {v1 v2 v3 : V} (h1 : Ev a1 σ H v1) (h2 : Ev a2 σ H v2) (h3 : Ev a3 σ H v3) (k : ∀ H1, Ex H H1 → sp [v1, v2, v3] H1 Q E) : tCall sp [] E (tCons a1 (tCons a2 (tCons a3 tNil))) σ H Q :=
  h1 H (Ex.refl H) _ fun H1 e1 => h2 H1 e1 _ fun H2 e2 => h3 H2 (e1.trans e2) _ fun H3 e3 => k H3 ((e1.trans e2).trans e3)
theorem q_dput {td tk tv : TE} {σ : L2.St} {H : Hp} {D : Ends} {tz : TS} {v : V} {d : Addr} {kvs : List (Key × V)} {k : Key} (hv : Ev tv σ H v) (hd : Ev td σ H (.ref d)) (hk : Ev tk σ H (kV k)) (h : H d = some (.dK kvs)) (hl : kvs.length < 100000) (c : ∀ H1, Ex H H1 → tz D σ (upd H1 d (.dK (putK kvs k v)))) : tSeq (sDPut td tk tv) tz D σ H :=
  s_dput (D := { D with nx := tz D }) hv hd hk h hl c
theorem roomK_len {nm : List Nm} {ld : List Addr} (h : ld.length = nm.length) : (roomK nm ld).length = nm.length := by
  unfold roomK
  rw [List.length_map, List.length_zip, h, Nat.min_self]
theorem cmb_bd {nm : List Nm} {N : Nat} {p q r : Pg} (hp : PgB nm N p) (hq : PgB nm N q) (hr : (r.map (·.1)).Nodup) (h : ∀ n, getP r n = cmb (getP p n) (getP q n)) : PgB nm N r := fun e he => by
  have h1 := getP_mem hr e he
  rw [h] at h1
  cases c : getP p e.1 with
  | none =>
    rw [c] at h1
    exact hq _ (getP_is h1)
  | some s =>
    have hs := hp _ (getP_is c)
    rw [c] at h1
    cases d : getP q e.1 with
    | none =>
      rw [d] at h1
      have : s = e.2 := Option.some.inj h1
      rw [this] at hs
      exact hs
    | some t =>
      have ht := hq _ (getP_is d)
      rw [d] at h1
      have hg : gr s t = e.2 := Option.some.inj h1
      refine ⟨hs.1, ?_, ?_, ?_⟩
      · have a1 := hs.2.1
        have a2 := ht.2.1
        unfold ShPos at a1 a2 ⊢
        rw [← hg]
        unfold gr mx
        simp only at a1 a2 ⊢
        split <;> split <;> omega
      · rw [← hg]
        have a1 := hs.2.2.1
        have a2 := ht.2.2.1
        show mx s.1 t.1 ≤ _
        unfold mx
        split <;> assumption
      · rw [← hg]
        have a1 := hs.2.2.2
        have a2 := ht.2.2.2
        show mx s.2 t.2 ≤ _
        unfold mx
        split <;> assumption
def spMeeting (K : PySem.W.Frag) (CR CH : Addr) : Sp := fun vs H Q _ => ∃ (r hdt pgs : Addr) (nm : List Nm) (ad : List Addr) (N : Nat) (q : Nat → Pg) (z1 z2 : Nm), vs = [.ref r, .ref pgs, .str (ofL z1), .str (ofL z2)] ∧ SR nm ad ∧ (r ∉ ad ∧ r ≠ pgs) ∧ Wr K CR CH nm ad r hdt pgs N q H ∧ z1.length ≤ 100 ∧ z2.length ≤ 100 ∧
  ∀ H' q', FrW ad pgs H H' → Wr K CR CH nm ad r hdt pgs N q' H' → Q (.bl true) H'
section
variable {P : Program} {w : World} {K : PySem.W.Frag} {mg : Str → Option Value} {base : Heap}
theorem ok_law_meeting (T : Txt K mg) : FnOk P w K mg base CX0 6 T.a_law_meeting T.d_law_meeting ["_law_room", "_law_pages", "_law_one", "_law_other"] (spMeeting K T.c_Room T.c_Hand) := by
  refine T.h_law_meeting.F.ok sc_law_meeting (fun vs H Q E h => ?_) (fun cdv A outer s H vs Q E hr h => ?_)
  · obtain ⟨r, hdt, pgs, nm, ad, N, q, z1, z2, rfl, _⟩ := h
    rfl
  · obtain ⟨r, hdt, pgs, nm, ad, N, q, z1, z2, rfl, st, hr2, wr, hz1, hz2, k⟩ := h
    refine ⟨_, (pss_cons (ps_set (i := 4) sc_law_meeting.nd rfl (by first | exact Or.inl rfl | exact Or.inr rfl) (pe_call (ok_law_met T) (hr.mono (by decide)) rfl T.h_law_met.m T.h_law_met.F.kp T.h_law_met.b .nil pass0 (pa_cons (pv 0) (pa_cons (pv 2) (pa_cons (pv 3) pa_nil))))) (pss_cons (ps_if (PW.pt (pw_or (pt_cmp (pc_dnotin (hu_of hr) (pv 2) (pv 1))) (pw_or1 (pt_cmp (pc_dnotin (hu_of hr) (pv 3) (pv 1)))))) (pss_one (ps_ret (pe_cmpR op_eq (pv 4) pe_str (nomark _)))) pss_nil) (pss_cons (ps_if (PW.pt (pw_or (pt_not (pt_val (pe_call (ok_law_trusts T) (hr.mono (by decide)) rfl T.h_law_trusts.m T.h_law_trusts.F.kp T.h_law_trusts.b .nil pass0 (pa_cons (pv 1) (pa_cons (pv 2) (pa_cons (pv 3) pa_nil)))))) (pw_or1 (pt_not (pt_val (pe_call (ok_law_trusts T) (hr.mono (by decide)) rfl T.h_law_trusts.m T.h_law_trusts.F.kp T.h_law_trusts.b .nil pass0 (pa_cons (pv 1) (pa_cons (pv 3) (pa_cons (pv 2) pa_nil))))))))) (pss_one (ps_ret (pe_cmpR op_eq (pv 4) pe_str (nomark _)))) pss_nil) (pss_cons (ps_set (i := 5) sc_law_meeting.nd rfl (by first | exact Or.inl rfl | exact Or.inr rfl) (pe_tup (pa_cons (pe_call (ok_law_count T) (hr.mono (by decide)) rfl T.h_law_count.m T.h_law_count.F.kp T.h_law_count.b .nil pass0 (pa_cons (pe_dget (hu_of hr) (pv 1) (pv 2) (fun _ _ => rfl)) (pa_cons (pe_dget (hu_of hr) (pv 1) (pv 3) (fun _ _ => rfl)) pa_nil))) (pa_cons (pe_call (ok_law_count T) (hr.mono (by decide)) rfl T.h_law_count.m T.h_law_count.F.kp T.h_law_count.b .nil pass0 (pa_cons (pe_dget (hu_of hr) (pv 1) (pv 3) (fun _ _ => rfl)) (pa_cons (pe_dget (hu_of hr) (pv 1) (pv 2) (fun _ _ => rfl)) pa_nil))) pa_nil)))) (pss_cons (ps_set (i := 6) sc_law_meeting.nd rfl (by first | exact Or.inl rfl | exact Or.inr rfl) (pe_call (ok_law_joined T) (hr.mono (by decide)) rfl T.h_law_joined.m T.h_law_joined.F.kp T.h_law_joined.b .nil pass0 (pa_cons (pe_dget (hu_of hr) (pv 1) (pv 2) (fun _ _ => rfl)) (pa_cons (pe_dget (hu_of hr) (pv 1) (pv 3) (fun _ _ => rfl)) pa_nil)))) (pss_cons (ps_dput (hu_of hr) (pv 1) (pv 2) (pv 6) rfl) (pss_cons (ps_dput (hu_of hr) (pv 1) (pv 3) (pv 6) rfl) (pss_one (ps_ret (pe_call (ok_law_share T) (hr.mono (by decide)) rfl T.h_law_share.m T.h_law_share.F.kp T.h_law_share.b .nil pass0 (pa_cons (pv 4) (pa_cons (pv 5) pa_nil)))))))))))), ?_⟩
    refine m_call3 (ev_var rfl) (ev_var rfl) (ev_var rfl) fun H1 e1 => ?_
    have wr1 := wr.mono e1
    obtain ⟨ld, hld, hpg, hlaw⟩ := wr1.law
    have kF : ∀ {H'}, FrW ad pgs H1 H' → FrW ad pgs H H' := fun f a o ha h1 h2 => f a o (e1 _ _ ha) h1 h2
    have fE : ∀ {H'}, Ex H1 H' → FrW ad pgs H1 H' := fun e a o ha _ _ => e _ _ ha
    have hs : ∀ z, (valV (roomK nm ld) (.inr (ofL z))).isSome = (look nm ad z).isSome := fun z => by
      rw [room_val, ← look_ld st.la hld st.nd]
      cases look nm ld z <;> rfl
    refine ⟨r, hdt, nm, ad, z1, z2, rfl, wr1.room, st.gd, by omega, by omega, fun hno v H2 e2 hv => ?_, fun x1 x2 l1 l2 => ?_⟩
    · obtain rfl : v = .str "name" := hv
      dsimp only
      refine q_when (b := !(look nm ad z1).isSome || !(look nm ad z2).isSome) (et_or (et_B (ev_is (ev_dnl (ev_var rfl) (ev_var rfl) (e2 _ _ hpg)) (by rw [hs]))) fun _ => et_B (ev_is (ev_dnl (ev_var rfl) (ev_var rfl) (e2 _ _ hpg)) (by rw [hs]))) (fun _ H3 e3 => ?_) (fun hb _ _ => by
        rcases hno with z | z <;> rw [z] at hb <;> simp at hb)
      exact s_ret (v := .bl true) (ev_is (ev_op (ev_var rfl) ev_c (rv_eq rfl)) (by simp)) fun H4 e4 => k H4 q (kF (fE ((e2.trans e3).trans e4))) (wr1.mono ((e2.trans e3).trans e4))
    · obtain ⟨i1, a1, b1⟩ := look_some l1
      obtain ⟨i2, a2, b2⟩ := look_some l2
      obtain ⟨⟨p1, hp1, ge1⟩, o11, o12⟩ := wr1.hand i1 z1 x1 a1 b1
      obtain ⟨⟨p2', hp2', ge2'⟩, o21, o22⟩ := wr1.hand i2 z2 x2 a2 b2
      obtain ⟨p2, hp2, ge2, hsame⟩ : ∃ p2, HandAt K T.c_Hand H1 x2 z2 p2 ∧ GE p2 (q i2) ∧ (x1 = x2 → z1 = z2 ∧ p1 = p2) := by
        by_cases hx : x1 = x2
        · subst hx
          have := at_sameA st.an b1 b2
          subst this
          rw [a1] at a2
          obtain rfl := Option.some.inj a2
          exact ⟨p1, hp1, ge1, fun _ => ⟨rfl, rfl⟩⟩
        · exact ⟨p2', hp2', ge2', fun z => absurd z hx⟩
      have h1l : i1 < nm.length := (List.getElem?_eq_some_iff.mp a1).1
      have h2l : i2 < nm.length := (List.getElem?_eq_some_iff.mp a2).1
      have hd1 : ld[i1]? = some (ld[i1]'(by omega)) := List.getElem?_eq_getElem _
      have hd2 : ld[i2]? = some (ld[i2]'(by omega)) := List.getElem?_eq_getElem _
      generalize ld[i1]'(by omega) = d1 at hd1
      generalize ld[i2]'(by omega) = d2 at hd2
      obtain ⟨hq1, hne1⟩ := hlaw i1 d1 hd1
      obtain ⟨hq2, hne2⟩ := hlaw i2 d2 hd2
      have hv1 : valV (roomK nm ld) (.inr (ofL z1)) = some (.ref d1) := by rw [room_val, look_at st.nd a1 hd1]; rfl
      have hv2 : valV (roomK nm ld) (.inr (ofL z2)) = some (.ref d2) := by rw [room_val, look_at st.nd a2 hd2]; rfl
      have hB1 := wr1.bd i1 h1l
      have hB2 := wr1.bd i2 h2l
      have hlq1 := pgB_len hB1 hq1.nd
      have hlq2 := pgB_len hB2 hq2.nd
      have hl1 := ge_len hp1.nd hq1.nd ge1
      have hl2 := ge_len hp2.nd hq2.nd ge2
      have hle := st.le
      have hT1 : reachB ((getP (q i1) z1).getD (0, 0)) ((getP (q i2) z1).getD (0, 0)) = reachB ((getP p1 z1).getD (0, 0)) ((getP p2 z1).getD (0, 0)) := by rw [ge1, ge2]
      have hT2 : reachB ((getP (q i2) z2).getD (0, 0)) ((getP (q i1) z2).getD (0, 0)) = reachB ((getP p2 z2).getD (0, 0)) ((getP p1 z2).getD (0, 0)) := by rw [ge1, ge2]
      have inb : ∀ {H' : Hp} {σ : L2.St}, H' pgs = some (.dK (roomK nm ld)) → σ[1]? = some (some (.ref pgs)) → σ[2]? = some (some (.str (ofL z1))) → σ[3]? = some (some (.str (ofL z2))) → EvT (tOr (tB (tDNotIn (tVar 2) (tVar 1))) (tB (tDNotIn (tVar 3) (tVar 1)))) σ H' false := fun hp s1 s2 s3 => et_or (a := false) (b := false) (et_B (ev_is (ev_dnl (ev_var s2) (ev_var s1) hp) (by rw [hv1]; rfl))) fun _ => et_B (ev_is (ev_dnl (ev_var s3) (ev_var s1) hp) (by rw [hv2]; rfl))
      refine ⟨p1, p2, hp1, hp2, by omega, hsame, fun hno v H2 e2 hv => ?_, fun hT H2 f1 f2 t eX hf1 hf2 hg1 hg2 hoff ht => ?_⟩
      · obtain rfl : v = .str "forged" := hv
        dsimp only
        refine q_when (b := false) (inb (e2 _ _ hpg) rfl rfl rfl) (fun hb _ _ => by cases hb) (fun _ H3 e3 => ?_)
        have e13 := e2.trans e3
        refine q_when (b := !reachB ((getP (q i1) z1).getD (0, 0)) ((getP (q i2) z1).getD (0, 0)) || !reachB ((getP (q i2) z2).getD (0, 0)) ((getP (q i1) z2).getD (0, 0))) (et_or (et_not (et_B (ev_call (ea_cons (ev_var rfl) (ea_cons (ev_var rfl) (ea_cons (ev_var rfl) ea_nil))) (sv_lTrusts (e13 _ _ hpg) hv1 hv2 (hq1.mono e13) (hq2.mono e13))))) fun _ => et_not (et_B (ev_call (ea_cons (ev_var rfl) (ea_cons (ev_var rfl) (ea_cons (ev_var rfl) ea_nil))) (sv_lTrusts (e13 _ _ hpg) hv2 hv1 (hq2.mono e13) (hq1.mono e13))))) (fun _ H4 e4 => ?_) (fun hb _ _ => by
          rw [hT1, hT2, Bool.or_eq_false_iff, Bool.not_eq_false', Bool.not_eq_false'] at hb
          exact absurd hb hno)
        exact s_ret (v := .bl true) (ev_is (ev_op (ev_var rfl) ev_c (rv_eq rfl)) (by simp)) fun H5 e5 => k H5 q (kF (fE ((e13.trans e4).trans e5))) (wr1.mono ((e13.trans e4).trans e5))
      · dsimp only
        have hx1n : x1 ≠ pgs := fun z => by obtain ⟨dx, fs, u⟩ := wr1.isIns st (List.mem_of_getElem? b1); rw [z, hpg] at u; cases u
        have hx2n : x2 ≠ pgs := fun z => by obtain ⟨dx, fs, u⟩ := wr1.isIns st (List.mem_of_getElem? b2); rw [z, hpg] at u; cases u
        have hpg2 : H2 pgs = some (.dK (roomK nm ld)) := eX _ _ hpg (Ne.symm hx1n) (Ne.symm hx2n)
        have f2W : FrW ad pgs H1 H2 := fun a o ha h1 h2 => eX a o ha (fun z => h1 (by rw [z]; exact List.mem_of_getElem? b1)) (fun z => h1 (by rw [z]; exact List.mem_of_getElem? b2))
        have hq12 := wr1.keepP st f2W hq1 hne1
        have hq22 := wr1.keepP st f2W hq2 hne2
        refine q_when (b := false) (inb hpg2 rfl rfl rfl) (fun hb _ _ => by cases hb) (fun _ H3 e3 => ?_)
        refine q_when (b := !reachB ((getP (q i1) z1).getD (0, 0)) ((getP (q i2) z1).getD (0, 0)) || !reachB ((getP (q i2) z2).getD (0, 0)) ((getP (q i1) z2).getD (0, 0))) (et_or (et_not (et_B (ev_call (ea_cons (ev_var rfl) (ea_cons (ev_var rfl) (ea_cons (ev_var rfl) ea_nil))) (sv_lTrusts (e3 _ _ hpg2) hv1 hv2 (hq12.mono e3) (hq22.mono e3))))) fun _ => et_not (et_B (ev_call (ea_cons (ev_var rfl) (ea_cons (ev_var rfl) (ea_cons (ev_var rfl) ea_nil))) (sv_lTrusts (e3 _ _ hpg2) hv2 hv1 (hq22.mono e3) (hq12.mono e3))))) (fun hb _ _ => by
          rw [hT1, hT2, hT.1, hT.2] at hb
          cases hb) (fun _ H4 e4 => ?_)
        have e24 := e3.trans e4
        have hpg4 := e24 _ _ hpg2
        have hq14 := hq12.mono e24
        have hq24 := hq22.mono e24
        have g1 : ∀ {H' : Hp} {σ : L2.St}, Ex H4 H' → σ[1]? = some (some (.ref pgs)) → σ[2]? = some (some (.str (ofL z1))) → Ev (tDGet (tVar 1) (tVar 2)) σ H' (.ref d1) := fun e s1 s2 => ev_dgetN (ev_var s1) (ev_var s2) (e _ _ hpg4) hv1
        have g2 : ∀ {H' : Hp} {σ : L2.St}, Ex H4 H' → σ[1]? = some (some (.ref pgs)) → σ[3]? = some (some (.str (ofL z2))) → Ev (tDGet (tVar 1) (tVar 3)) σ H' (.ref d2) := fun e s1 s2 => ev_dgetN (ev_var s1) (ev_var s2) (e _ _ hpg4) hv2
        refine qx_asg (x_tup (vs := [.int (cnt (q i1) (q i2) : Int), .int (cnt (q i2) (q i1) : Int)]) (ea_cons (ev_call (ea_cons (g1 (Ex.refl _) rfl rfl) (ea_cons (g2 (Ex.refl _) rfl rfl) ea_nil)) (sv_count hq14 hq24)) (ea_cons (ev_call (ea_cons (g2 (Ex.refl _) rfl rfl) (ea_cons (g1 (Ex.refl _) rfl rfl) ea_nil)) (sv_count hq24 hq14)) ea_nil))) ?_
        rintro v H5 e5 ⟨t2, rfl, ht20, ht2⟩
        refine qx_asg (x_lawJoin (K := K) (g1 e5 rfl rfl) (g2 e5 rfl rfl) (hq14.mono e5) (hq24.mono e5) (by omega)) ?_
        rintro v H6 e6 ⟨db, rB, rfl, hdb0, hdb, hgB⟩
        have e46 := e5.trans e6
        have hpg6 := e46 _ _ hpg4
        have hdbp : db ≠ pgs := fun z => by rw [z, e5 _ _ hpg4] at hdb0; cases hdb0
        have hposq2 : PgPos (q i2) := fun e he => (hB2 e he).2.1
        have hgB2 : ∀ m, getP rB m = cmb (getP (q i1) m) (getP (q i2) m) := fun m => by rw [hgB, joinG_cmb hposq2]
        refine q_dput (k := .inr (ofL z1)) (ev_var rfl) (ev_var rfl) (ev_var rfl) hpg6 (by rw [roomK_len hld]; omega) fun H7 e7 => ?_
        rw [roomK_put st.nd hld a1]
        have hld1 : (ld.set i1 db).length = nm.length := by rw [List.length_set]; exact hld
        refine q_dput (k := .inr (ofL z2)) (ev_var rfl) (ev_var rfl) (ev_var rfl) upd_same (by rw [roomK_len hld1]; omega) fun H8 e8 => ?_
        rw [roomK_put st.nd hld1 a2]
        have hld2 : ((ld.set i1 db).set i2 db).length = nm.length := by rw [List.length_set]; exact hld1
        have eP : ∀ a o, H6 a = some o → a ≠ pgs → upd H8 pgs (.dK (roomK nm ((ld.set i1 db).set i2 db))) a = some o := fun a o ha hn => by
          rw [upd_ne hn]
          exact e8 _ _ (by rw [upd_ne hn]; exact e7 _ _ ha)
        have hP9 : upd H8 pgs (.dK (roomK nm ((ld.set i1 db).set i2 db))) pgs = some (.dK (roomK nm ((ld.set i1 db).set i2 db))) := upd_same
        generalize upd H8 pgs (.dK (roomK nm ((ld.set i1 db).set i2 db))) = H9 at eP hP9
        have tP : ∀ {t xs}, SqT K H6 t xs → SqT K H9 t xs := fun {t xs} h => by
          rcases h with (h | ⟨o, h⟩) | h
          · exact .inl (.inl (eP _ _ h (fun z => by rw [z, hpg6] at h; cases h)))
          · exact .inl (.inr ⟨o, eP _ _ h (fun z => by rw [z, hpg6] at h; cases h)⟩)
          · exact .inr h
        have pP : ∀ {d p}, PgAt K H6 d p → d ≠ pgs → PgAt K H9 d p := fun {d p} ⟨kv, a, b, c⟩ hn => ⟨kv, eP _ _ a hn, b.to fun _ _ => tP, c⟩
        have hP : ∀ {x n p}, HandAt K T.c_Hand H6 x n p → HandOff T.c_Hand H6 x n pgs → HandAt K T.c_Hand H9 x n p ∧ ∀ b, HandOff T.c_Hand H6 x n b → HandOff T.c_Hand H9 x n b := fun {x n p} ⟨dx, pd, a, b, c⟩ ho => by
          have hx := eP _ _ a (fun z => by rw [z, hpg6] at a; cases a)
          exact ⟨⟨dx, pd, hx, pP b (ho dx pd a), c⟩, fun b hb => hb.to a hx⟩
        have e26 := e24.trans e46
        have wr9 : Wr K T.c_Room T.c_Hand nm ad r hdt pgs N (fun j => if j = i1 ∨ j = i2 then rB else q j) H9 := by
          refine wr1.step st (fun j => j = i1 ∨ j = i2) hr2 (fun a o ha hI hn => eP _ _ (e26 _ _ (eX a o ha (fun z => hI i1 (.inl rfl) (by rw [z]; exact b1)) (fun z => hI i2 (.inr rfl) (by rw [z]; exact b2)))) hn) (fun i n x hI hi hx => ?_) (fun i hI => if_neg hI) ⟨_, hld2, hP9, fun i d hd => ?_⟩ (fun i hi => ?_) wr1.n7
          · rw [if_pos hI]
            have offp := hoff pgs _ hpg
            have offh := hoff hdt _ wr1.room.2
            rcases hI with rfl | rfl
            · rw [a1] at hi
              rw [b1] at hx
              obtain rfl := Option.some.inj hi
              obtain rfl := Option.some.inj hx
              obtain ⟨h1, h2⟩ := hP (hf1.mono e26) (offp.1.mono hf1 e26)
              exact ⟨⟨f1, h1, fun m => by rw [hg1, hgB2, ge1, ge2]⟩, h2 _ (offh.1.mono hf1 e26), h2 _ (offp.1.mono hf1 e26)⟩
            · rw [a2] at hi
              rw [b2] at hx
              obtain rfl := Option.some.inj hi
              obtain rfl := Option.some.inj hx
              obtain ⟨h1, h2⟩ := hP (hf2.mono e26) (offp.2.mono hf2 e26)
              exact ⟨⟨f2, h1, fun m => by rw [hg2, hgB2, ge1, ge2]⟩, h2 _ (offh.2.mono hf2 e26), h2 _ (offp.2.mono hf2 e26)⟩
          · by_cases z2 : i = i2
            · subst z2
              rw [List.getElem?_set_self (by rw [List.length_set]; omega)] at hd
              obtain rfl := Option.some.inj hd
              rw [if_pos (.inr rfl)]
              exact ⟨pP hdb hdbp, hdbp⟩
            · rw [List.getElem?_set_ne (Ne.symm z2)] at hd
              by_cases z1 : i = i1
              · subst z1
                rw [List.getElem?_set_self (by omega)] at hd
                obtain rfl := Option.some.inj hd
                rw [if_pos (.inl rfl)]
                exact ⟨pP hdb hdbp, hdbp⟩
              · rw [List.getElem?_set_ne (Ne.symm z1)] at hd
                rw [if_neg (fun z => z.elim z1 z2)]
                obtain ⟨h1, h2⟩ := hlaw i d hd
                exact ⟨pP ((wr1.keepP st f2W h1 h2).mono e26) h2, h2⟩
          · by_cases z : i = i1 ∨ i = i2
            · rw [if_pos z]
              exact cmb_bd hB1 hB2 hdb.nd hgB2
            · rw [if_neg z]
              exact wr1.bd i hi
        have hc1 : cnt p1 p2 = cnt (q i1) (q i2) := cnt_congr hp2.nd hq2.nd ge1 ge2
        have hc2 : cnt p2 p1 = cnt (q i2) (q i1) := cnt_congr hp1.nd hq1.nd ge2 ge1
        rw [hc1, hc2] at ht
        refine s_ret (v := .bl true) (ev_is (x_share (K := K) (x_varT rfl (tP (ex_t e26 ht))) (x_varT rfl (tP (ex_t e6 (st_of ht2))))) (by simp)) fun H10 e10 => ?_
        exact k H10 _ (kF fun a o ha h1 h2 => e10 _ _ (eP _ _ (e26 _ _ (f2W a o ha h1 h2)) h2)) (wr9.mono e10)
end

--CUT l12e
/-! ### what a hand tells, beside the law's own pages -/
section
variable {K : PySem.W.Frag} {σ : L2.St} {H H' : Hp} {ta tb : TE} {P P1 P2 : VP} {x : Addr}
theorem x_sameXX {E : XK} [Mono P1] (h1 : EvX ta σ H P1) (h2 : EvX tb σ H P2) (g : ∀ v w H1, Ex H H1 → P1 v H1 → P2 w H1 → ∃ d f b dd, v = .ref d ∧ w = .ref b ∧ PgAt K H1 d f ∧ PgRd K H1 b dd ∧ f.Perm dd ∧ RisingN (f.map (·.1))) : Ev (tCall (spSame K) [] E (tCons ta (tCons tb tNil))) σ H (.bl true) := ev_x (x_call2 h1 h2 (by
  rintro v w H1 e p1 p2
  obtain ⟨d, f, b, dd, rfl, rfl, h3, h4, h5, h6⟩ := g _ _ _ e p1 p2
  exact sx_of ((d, b), f, dd) (fun H2 e2 => ⟨h3.mono e2, h4.mono e2, h5, h6⟩) fun _ _ _ _ _ h => h))
theorem x_trustsX {T : Txt K mg} {E : XK} {n : Nm} {p q : Pg} (h : Ev ta σ H (.ref x)) (h1 : EvX tb σ H (CpV K H q)) (hh : HandAt K T.c_Hand H x n p) :
    Ev (tMeth T.c_Hand "trusts" (spTrusts K T.c_Hand) [] E ta (tCons tb tNil)) σ H (.bl (reachB ((getP p n).getD (0, 0)) ((getP q n).getD (0, 0)))) := by
  obtain ⟨dx, pd, hx, _⟩ := id hh
  refine ev_x (x_meth1 h h1 hx (hfs_no n pd (by decide +kernel) (by decide +kernel)) ?_)
  rintro _ H1 e ⟨a, rfl, _, ha⟩
  exact sx_of ((x, a), n, p, q) (fun H2 e2 => ⟨hh.mono (e.trans e2), (ha.mono e2).rd⟩) fun _ _ _ _ _ hv => hv
end
section
variable {P : Program} {w : World} {K : PySem.W.Frag} {mg : Str → Option Value} {base : Heap}
abbrev spLTold (K : PySem.W.Frag) (CR CH : Addr) : Sp := SpF (fun x : (Addr × Addr × Addr) × (List Nm × List Addr) × (Nat × (Nat → Pg)) × (Nat × Nat) × (Nm × Nm) => [.ref x.1.1, .ref x.1.2.2, .str (ofL x.2.2.2.2.1), .str (ofL x.2.2.2.2.2)]) (fun x H => SR x.2.1.1 x.2.1.2 ∧ Wr K CR CH x.2.1.1 x.2.1.2 x.1.1 x.1.2.1 x.1.2.2 x.2.2.1.1 x.2.2.1.2 H ∧ x.2.1.1[x.2.2.2.1.1]? = some x.2.2.2.2.1 ∧ x.2.1.1[x.2.2.2.1.2]? = some x.2.2.2.2.2) (fun _ _ => Is (.bl true))
theorem sv_lTold {CR CH : Addr} {H : Hp} {nm : List Nm} {ad : List Addr} {r hdt pgs : Addr} {N : Nat} {q : Nat → Pg} {i j : Nat} {n m : Nm} (st : SR nm ad) (wr : Wr K CR CH nm ad r hdt pgs N q H) (hi : nm[i]? = some n) (hj : nm[j]? = some m) : SpV (spLTold K CR CH) [.ref r, .ref pgs, .str (ofL n), .str (ofL m)] H (.bl true) :=
  sv_of (sx_of ((r, hdt, pgs), (nm, ad), (N, q), (i, j), (n, m)) (fun _ e => ⟨st, wr.mono e, hi, hj⟩) fun _ _ _ _ _ h => h)
theorem ok_law_told (T : Txt K mg) : FnOk P w K mg base CX0 7 T.a_law_told T.d_law_told ["_law_room", "_law_pages", "_law_one", "_law_other"] (spLTold K T.c_Room T.c_Hand) := by
  refine T.h_law_told.F.ok sc_law_told (fun vs H Q E h => ?_) (fun cdv A outer s H vs Q E hr h => ?_)
  · obtain ⟨c, rfl, _⟩ := h
    rfl
  · obtain ⟨⟨⟨r, hdt, pgs⟩, ⟨nm, ad⟩, ⟨N, q⟩, ⟨i, j⟩, ⟨n, m⟩⟩, rfl, ⟨st, wr, hi, hj⟩, k⟩ := h
    simp only at st wr hi hj k
    refine ⟨_, (pss_cons (ps_set (i := 4) sc_law_told.nd rfl (by first | exact Or.inl rfl | exact Or.inr rfl) (pe_meth (pv 0) T.cl_Room T.h_Room_hand.m (ok_Room_hand T) (hr.mono (by decide)) T.h_Room_hand.b .nil passL (pa_cons (pv 2) pa_nil))) (pss_cons (ps_if (PW.pt (pw_or (pt_not (pt_val (pe_callB call_isi (by rfl) T.n_isinstance (by decide +kernel) (pa_cons (pv 4) (pa_cons (pe_glob (v := .ref T.c_Hand) rfl T.g_Hand rfl) pa_nil))))) (pw_or (pt_not (pt_val (pe_call (ok_law_whole T) (hr.mono (by decide)) rfl T.h_law_whole.m T.h_law_whole.F.kp T.h_law_whole.b .nil pass0 (pa_cons (pe_meth0 (pv 4) T.cl_Hand T.h_Hand_told.m (ok_Hand_told T) (hr.mono (by decide)) T.h_Hand_told.b .nil pass0) pa_nil)))) (pw_or1 (pt_cmpR op_ne (pe_meth0 (pv 4) T.cl_Hand T.h_Hand_told.m (ok_Hand_told T) (hr.mono (by decide)) T.h_Hand_told.b .nil pass0) (pe_call (ok_law_total T) (hr.mono (by decide)) rfl T.h_law_total.m T.h_law_total.F.kp T.h_law_total.b .nil pass0 (pa_cons (pe_dget (hu_of hr) (pv 1) (pv 2) (fun _ _ => rfl)) pa_nil)) (nomark _)))))) (pss_one (ps_ret pe_bl)) pss_nil) (pss_cons (ps_set (i := 5) sc_law_told.nd rfl (by first | exact Or.inl rfl | exact Or.inr rfl) pe_dnewK) (pss_cons (ps_lock (ps_for PassesOwn.never rfl (pi_keys (pe_dget (hu_of hr) (pv 1) (pv 2) (fun _ _ => rfl))) (pg_name (i := 6) sc_law_told.nd rfl (by first | exact Or.inl rfl | exact Or.inr rfl)) (pss_cons (ps_set (i := 7) sc_law_told.nd rfl (by first | exact Or.inl rfl | exact Or.inr rfl) (pe_dget (hu_of hr) (pe_dget (hu_of hr) (pv 1) (pv 2) (fun _ _ => rfl)) (pv 6) (fun _ _ => rfl))) (pss_cons (ps_set (i := 8) sc_law_told.nd rfl (by first | exact Or.inl rfl | exact Or.inr rfl) (pe_dget2 (hu_of hr) (pe_dget (hu_of hr) (pv 1) (pv 3) (fun _ _ => rfl)) (pv 6) (pe_tup (pa_cons pe_int (pa_cons pe_int pa_nil))) (by refine ⟨?_, ?_, ?_, ?_⟩ <;> rfl))) (pss_one (ps_if (PW.pt (pw_or (pt_cmpR op_gt (pe_ix ix_tup (pv 7) pe_int (fun _ _ => rfl)) (pe_ix ix_tup (pv 8) pe_int (fun _ _ => rfl)) (nomark _)) (pw_or1 (pt_cmpR op_gt (pe_ix ix_tup (pv 7) pe_int (fun _ _ => rfl)) (pe_ix ix_tup (pv 8) pe_int (fun _ _ => rfl)) (nomark _))))) (pss_one (ps_dput (hu_of hr) (pv 5) (pv 6) (pv 7) rfl)) pss_nil)))))) (pss_cons (ps_if (pt_not (pt_val (pe_call (ok_law_same T) (hr.mono (by decide)) rfl T.h_law_same.m T.h_law_same.F.kp T.h_law_same.b .nil pass0 (pa_cons (pe_meth (pv 4) T.cl_Hand T.h_Hand_letter.m (ok_Hand_letter T) (hr.mono (by decide)) T.h_Hand_letter.b .nil passL (pa_cons (pe_callTy call_dictD (by rfl) T.n_dict (by decide +kernel) (pa_cons (pe_dget (hu_of hr) (pv 1) (pv 3) (fun _ _ => rfl)) pa_nil)) pa_nil)) (pa_cons (pv 5) pa_nil))))) (pss_one (ps_ret pe_bl)) pss_nil) (pss_one (ps_ret (pe_call (ok_law_truth T) (hr.mono (by decide)) rfl T.h_law_truth.m T.h_law_truth.F.kp T.h_law_truth.b .nil pass0 (pa_cons (pe_meth (pv 4) T.cl_Hand T.h_Hand_trusts.m (ok_Hand_trusts T) (hr.mono (by decide)) T.h_Hand_trusts.b .nil pass0 (pa_cons (pe_callTy call_dictD (by rfl) T.n_dict (by decide +kernel) (pa_cons (pe_dget (hu_of hr) (pv 1) (pv 3) (fun _ _ => rfl)) pa_nil)) pa_nil)) (pa_cons (pe_call (ok_law_trusts T) (hr.mono (by decide)) rfl T.h_law_trusts.m T.h_law_trusts.F.kp T.h_law_trusts.b .nil pass0 (pa_cons (pv 1) (pa_cons (pv 2) (pa_cons (pv 3) pa_nil)))) pa_nil)))))))))), ?_⟩
    have hil : i < nm.length := (List.getElem?_eq_some_iff.mp hi).1
    have hjl : j < nm.length := (List.getElem?_eq_some_iff.mp hj).1
    have hx : ad[i]? = some (ad[i]'(by rw [st.la]; exact hil)) := List.getElem?_eq_getElem _
    generalize ad[i]'(by rw [st.la]; exact hil) = x at hx
    obtain ⟨⟨p, hp, hge⟩, _⟩ := wr.hand i n x hi hx
    obtain ⟨ld, hld, hpg, hlaw⟩ := wr.law
    have hd1 : ld[i]? = some (ld[i]'(by omega)) := List.getElem?_eq_getElem _
    have hd2 : ld[j]? = some (ld[j]'(by omega)) := List.getElem?_eq_getElem _
    generalize ld[i]'(by omega) = d1 at hd1
    generalize ld[j]'(by omega) = d2 at hd2
    obtain ⟨hq1, hne1⟩ := hlaw i d1 hd1
    obtain ⟨hq2, hne2⟩ := hlaw j d2 hd2
    have hv1 : valV (roomK nm ld) (.inr (ofL n)) = some (.ref d1) := by rw [room_val, look_at st.nd hi hd1]; rfl
    have hv2 : valV (roomK nm ld) (.inr (ofL m)) = some (.ref d2) := by rw [room_val, look_at st.nd hj hd2]; rfl
    have hperm : p.Perm (q i) := perm_get hp.nd hq1.nd hge
    have hlk := look_at st.nd hi hx
    obtain ⟨dx, pd, hxi, _⟩ := id hp
    refine q_asg (v := .ref x) (ev_rhand (K := K) (ev_var rfl) (ev_var rfl) wr.room st.gd hlk) fun H1 e1 => ?_
    have g1 : ∀ {H' : Hp} {σ : L2.St}, H' pgs = some (.dK (roomK nm ld)) → σ[1]? = some (some (.ref pgs)) → σ[2]? = some (some (.str (ofL n))) → Ev (tDGet (tVar 1) (tVar 2)) σ H' (.ref d1) := fun e s1 s2 => ev_dgetN (ev_var s1) (ev_var s2) e hv1
    have g2 : ∀ {H' : Hp} {σ : L2.St}, H' pgs = some (.dK (roomK nm ld)) → σ[1]? = some (some (.ref pgs)) → σ[3]? = some (some (.str (ofL m))) → Ev (tDGet (tVar 1) (tVar 3)) σ H' (.ref d2) := fun e s1 s2 => ev_dgetN (ev_var s1) (ev_var s2) e hv2
    refine q_when (b := !true || (!true || !decide (V.int (totP p) = V.int (totP (q i))))) (et_or (et_not (et_B (ev_cb (ea_cons (ev_var rfl) (ea_cons ev_c ea_nil)) (rc_isiC T.ic_Hand T.cl_Hand (e1 _ _ hxi))))) fun _ => et_or (et_not (et_B (ev_call (ea_cons (x_told (T := T) (ev_var rfl) (hp.mono e1)) ea_nil) sv_whole))) fun _ => et_test (ev_op (x_told (T := T) (ev_var rfl) (hp.mono e1)) (ev_call (ea_cons (g1 (e1 _ _ hpg) rfl rfl) ea_nil) (sv_lawTotal (hq1.mono e1))) (rv_ne rfl))) (fun hb _ _ => by rw [totP_perm hperm] at hb; simp at hb) (fun _ H2 e2 => ?_)
    have e02 := e1.trans e2
    refine qx_asg x_dnew ?_
    rintro v H3 e3 ⟨d, rfl, hdn0, hd3⟩
    have e03 := e02.trans e3
    have hd0 : H d = none := fresh_back e02 hdn0
    obtain ⟨kb, hb1, hb2, hb3, hb4, hb5⟩ := hq1.mono e03
    have hddne : d ≠ d1 := fun z => by
      obtain ⟨kb', hb1', _⟩ := hq1
      rw [z, hb1'] at hd0
      cases hd0
    have hdp : d ≠ pgs := fun z => by rw [z, hpg] at hd0; cases hd0
    refine q_lock hb1 fun od => ?_
    have hq1F : PgRd K (upd H3 d1 (.frz od (.dK kb))) d1 (q i) := (hq1.mono e03).rd.lock hb1
    have hq2F : PgRd K (upd H3 d1 (.frz od (.dK kb))) d2 (q j) := (hq2.mono e03).rd.lock hb1
    have hbF : upd H3 d1 (.frz od (.dK kb)) d1 = some (.frz od (.dK kb)) := upd_same
    have hpF : upd H3 d1 (.frz od (.dK kb)) pgs = some (.dK (roomK nm ld)) := by rw [upd_ne (Ne.symm hne1)]; exact e03 _ _ hpg
    have hdF : PgAt K (upd H3 d1 (.frz od (.dK kb))) d [] := PgAt.nil (by rw [upd_ne hddne]; exact hd3)
    have hun : ∀ H', (∀ a o, upd H3 d1 (.frz od (.dK kb)) a = some o → a ≠ d → H' a = some o) → Ex H (upd H' d1 (.dK kb)) := fun H' e a o ha => by
      by_cases z : a = d1
      · subst z
        have := e03 _ _ ha
        rw [hb1] at this
        obtain rfl := Option.some.inj this
        exact upd_same
      · rw [upd_ne z]
        exact e _ _ (by rw [upd_ne z]; exact e03 _ _ ha) (fun y => by rw [y, hd0] at ha; cases ha)
    generalize upd H3 d1 (.frz od (.dK kb)) = HL at hq1F hq2F hbF hpF hdF hun
    have kT : ∀ (H' : Hp) (t : Addr) (xs : List V), (∀ a o, HL a = some o → a ≠ d → H' a = some o) → SqT K HL t xs → SqT K H' t xs := fun H' t xs e h => by
      obtain ⟨kd, hd5, _⟩ := hdF
      rcases h with (h | ⟨o, h⟩) | h
      · exact .inl (.inl (e _ _ h (fun z => by rw [z, hd5] at h; cases h)))
      · exact .inl (.inr ⟨o, e _ _ h (fun z => by rw [z, hd5] at h; cases h)⟩)
      · exact .inr h
    have hd2d : d ≠ d2 := fun z => by
      obtain ⟨kb', hb1', _⟩ := hq2
      rw [z, hb1'] at hd0
      cases hd0
    have kR : ∀ (H' : Hp) (t : Addr) (pp : Pg), (∀ a o, HL a = some o → a ≠ d → H' a = some o) → t ≠ d → PgRd K HL t pp → PgRd K H' t pp := fun H' t pp e ht h => by
      obtain ⟨kv, h1, h2, h3⟩ := h
      refine ⟨kv, ?_, h2.to fun t xs => kT H' t xs e, h3⟩
      rcases h1 with h1 | ⟨o, h1⟩
      · exact .inl (e _ _ h1 ht)
      · exact .inr ⟨o, e _ _ h1 ht⟩
    refine s_forKeys (kvs := kb) (g1 hpF rfl rfl) hbF (fun l σ' H' => ∃ s6 s7 s8, σ' = [some (.ref r), some (.ref pgs), some (.str (ofL n)), some (.str (ofL m)), some (.ref x), some (.ref d), s6, s7, s8] ∧ (∀ a o, HL a = some o → a ≠ d → H' a = some o) ∧ PgAt K H' d (lackP (q j) (q i) (((q i).map (·.1)).take l)))
      (fun H4 e4 => ⟨none, none, none, rfl, fun a o ha _ => e4 _ _ ha, hdF.mono e4⟩) ?_ ?_ ?_
    · rintro l σ' H' ⟨s6, s7, s8, rfl, eH, _⟩
      exact eH _ _ hbF (Ne.symm hddne)
    · rintro l key u σ' H4 hkv ⟨s6, s7, s8, rfl, eH, hdd⟩
      obtain ⟨⟨y, s⟩, hem, hkey, _⟩ := hb2.at hkv
      have hmem := List.mem_of_getElem? hem
      have hget := getP_mem hb3 _ hmem
      have hnmok := hb4 _ hmem
      simp only at hkey hget hnmok
      subst hkey
      have hnm : ((q i).map (·.1))[l]? = some y := by rw [List.getElem?_map, hem]; rfl
      have hsuc := lackP_succ (p := q j) hnm hget
      have hpg4 := eH _ _ hpF (Ne.symm hdp)
      refine qx_asg (x_dget (K := K) (g1 hpg4 rfl rfl) (ev_var rfl) (kR _ _ _ eH (Ne.symm hddne) hq1F) hget) ?_
      rintro v H5 e5 ⟨t1, rfl, ht1⟩
      refine qx_asg (x_dget2 (K := K) (s0 := (0, 0)) (g2 (e5 _ _ hpg4) rfl rfl) (ev_var rfl) (x_tupT (K := K) (vs := [.int 0, .int 0]) (by walk_at "ev")) ((kR _ _ _ eH (Ne.symm hd2d) hq2F).mono e5)) ?_
      rintro v H6 e6 ⟨t2, rfl, ht2⟩
      have ht1' := ex_t e6 ht1
      have eH6 : ∀ a o, HL a = some o → a ≠ d → H6 a = some o := fun a o ha hn => e6 _ _ (e5 _ _ (eH a o ha hn))
      have hdd6 := (hdd.mono e5).mono e6
      refine s_when (b := decide (s.1 > ((getP (q j) y).getD (0, 0)).1) || decide (s.2 > ((getP (q j) y).getD (0, 0)).2)) (et_or (et_test (ev_op (ev_op (ev_var rfl) ev_c (rv_ixT ht1' rfl)) (ev_op (ev_var rfl) ev_c (rv_ixT ht2 rfl)) rv_I0)) fun _ => et_test (ev_op (ev_op (ev_var rfl) ev_c (rv_ixT ht1' rfl)) (ev_op (ev_var rfl) ev_c (rv_ixT ht2 rfl)) rv_I0)) (fun hb H7 e7 => ?_) (fun hb H7 e7 => ?_)
      · have hrf : reachB ((getP (q j) y).getD (0, 0)) s = false := by
          unfold reachB
          simp only [Bool.or_eq_true, decide_eq_true_eq] at hb
          rw [Bool.and_eq_false_iff, decide_eq_false_iff_not, decide_eq_false_iff_not]
          omega
        have hll : (lackP (q j) (q i) (((q i).map (·.1)).take l)).length ≤ l := by
          have h1 := (lackP_sub (q j) (q i) (((q i).map (·.1)).take l)).length_le
          rw [List.length_map, List.length_take] at h1
          omega
        have hlq : l < (q i).length := (List.getElem?_eq_some_iff.mp hem).1
        refine s_pgput (K := K) (n := y) (s := s) (x_varT rfl (ex_t e7 ht1')) (ev_var rfl) (ev_var rfl) (hdd6.mono e7) hnmok (by omega) fun H8 ks e8 hp8 => ?_
        refine ⟨_, _, _, rfl, fun a o ha hn => by rw [upd_ne hn]; exact e8 _ _ (e7 _ _ (eH6 a o ha hn)), ?_⟩
        have hno : y ∉ (lackP (q j) (q i) (((q i).map (·.1)).take l)).map (·.1) := fun hm => by
          have h1 := (lackP_sub (q j) (q i) (((q i).map (·.1)).take l)).subset hm
          obtain ⟨z, hz1, hz2⟩ := List.getElem_of_mem h1
          rw [List.length_take, List.length_map] at hz1
          rw [List.getElem_take] at hz2
          have hpp := List.pairwise_iff_getElem.mp hb3 z l (by rw [List.length_map]; omega) (by rw [List.length_map]; omega) (by omega)
          refine hpp ?_
          rw [hz2]
          have := (List.getElem?_eq_some_iff.mp hnm).2
          exact this.symm
        rw [hsuc, hrf, if_neg Bool.false_ne_true, ← putP_new hno]
        exact hp8
      · have hrt : reachB ((getP (q j) y).getD (0, 0)) s = true := by
          unfold reachB
          simp only [Bool.or_eq_false_iff, decide_eq_false_iff_not] at hb
          rw [Bool.and_eq_true, decide_eq_true_iff, decide_eq_true_iff]
          omega
        rw [hrt, if_pos rfl] at hsuc
        exact ⟨some (.str (ofL y)), some (.ref t1), some (.ref t2), rfl, fun a o ha hn => e7 _ _ (eH6 a o ha hn), by rw [hsuc]; exact hdd6.mono e7⟩
    · rintro σ' H4 ⟨s6, s7, s8, rfl, eH, hdd⟩
      refine ⟨eH _ _ hbF (Ne.symm hddne), ?_⟩
      have hfull : ((q i).map (·.1)).take kb.length = (q i).map (·.1) := List.take_of_length_le (by rw [hb2.len, List.length_map]; exact Nat.le_refl _)
      rw [hfull] at hdd
      have e0U := hun H4 eH
      have hddU : PgAt K (upd H4 d1 (.dK kb)) d (lackP (q j) (q i) ((q i).map (·.1))) := hdd.updF (eH _ _ hbF (Ne.symm hddne)) hddne
      dsimp only
      generalize upd H4 d1 (.dK kb) = H5 at e0U hddU
      have wr5 := wr.mono e0U
      have hp5 := hp.mono e0U
      have hq15 := hq1.mono e0U
      have hq25 := hq2.mono e0U
      have hpg5 := e0U _ _ hpg
      have hB := wr.bd j hjl
      have hgood := pgB_good st.gd (by have := wr.n7; omega) hB
      have hlen := pgB_len hB hq2.nd
      have hle := st.le
      refine q_when (b := !true) (et_not (et_B (x_sameXX (K := K) (x_letter (T := T) (ev_var rfl) (x_copyPg (K := K) (g2 hpg5 rfl rfl) hq25) hp5 (fun v H6 e6 ⟨dd, a, _, c⟩ => ⟨dd, a, c⟩) hgood (by omega)) (x_ev (ev_var (v := .ref d) rfl)) ?_))) (fun hb _ _ => by cases hb) (fun _ H6 e6 => ?_)
      · rintro v u H6 e6 ⟨d4, ns, rfl, _, hd4, hns, hris⟩ (hu : u = .ref d)
        refine ⟨d4, _, d, _, rfl, hu, hd4, (hddU.mono e6).rd, ?_, ?_⟩
        · rw [lackP_congr2 hge]
          exact (hns.trans (ge_names hp.nd hq1.nd hge)).filterMap _
        · exact hris.sublist (lackP_sub _ _ _)
      · refine s_ret (v := .bl true) (ev_is (ev_call (ea_cons (x_trustsX (T := T) (ev_var rfl) (x_copyPg (K := K) (g2 (e6 _ _ hpg5) rfl rfl) (hq25.mono e6)) (hp5.mono e6)) (ea_cons (ev_call (ea_cons (ev_var rfl) (ea_cons (ev_var rfl) (ea_cons (ev_var rfl) ea_nil))) (sv_lTrusts (e6 _ _ hpg5) hv1 hv2 (hq15.mono e6) (hq25.mono e6))) ea_nil)) sv_truth) (by rw [hge]; simp)) fun H7 e7 => k _ _ ((e0U.trans e6).trans e7) rfl
end

--CUT l12f
/-! ### one deed in the room -/
theorem pgB_mono {nm : List Nm} {N M : Nat} {p : Pg} (h : PgB nm N p) (hN : N ≤ M) : PgB nm M p := fun e he => by
  obtain ⟨h1, h2, h3, h4⟩ := h e he
  exact ⟨h1, h2, by omega, by omega⟩
theorem joinG_congr {p p' q : Pg} (h : GE p p') (n : Nm) : joinG p q n = joinG p' q n := by
  unfold joinG
  rw [h n]
theorem addG_congr {p p' : Pg} (h : GE p p') (n : Nm) (a b : Int) (m : Nm) : addG p n a b m = addG p' n a b m := by
  unfold addG
  rw [h n, h m]
section
variable {K : PySem.W.Frag} {CR CH : Addr} {nm : List Nm} {ad ld : List Addr} {r hdt pgs : Addr} {N N' : Nat} {q : Nat → Pg} {H H' : Hp}
theorem Wr.more (h : Wr K CR CH nm ad r hdt pgs N q H) (hN : N < 70) : Wr K CR CH nm ad r hdt pgs (N + 1) q H := { h with bd := fun i hi => pgB_mono (h.bd i hi) (by omega), n7 := by omega }
theorem Wr.one (st : SR nm ad) (h : Wr K CR CH nm ad r hdt pgs N q H) {i : Nat} {n : Nm} {x d : Addr} {rJ : Pg} (hi : nm[i]? = some n) (hx : ad[i]? = some x) (hr : r ∉ ad ∧ r ≠ pgs) (hld : ld.length = nm.length) (hlaw : ∀ (i : Nat) d, ld[i]? = some d → PgAt K H d (q i) ∧ d ≠ pgs)
    (eS : ∀ a o, H a = some o → a ≠ x → a ≠ pgs → H' a = some o) (hP : H' pgs = some (.dK (roomK nm (ld.set i d)))) (hdJ : PgAt K H' d rJ) (hdne : d ≠ pgs) (hand' : ∃ p, HandAt K CH H' x n p ∧ GE p rJ) (off1 : HandOff CH H' x n hdt) (off2 : HandOff CH H' x n pgs)
    (hB : PgB nm N' rJ) (hN : N ≤ N') (n7' : N' ≤ 70) : Wr K CR CH nm ad r hdt pgs N' (fun j => if j = i then rJ else q j) H' := by
  have hil : i < nm.length := (List.getElem?_eq_some_iff.mp hi).1
  have fW : FrW ad pgs H H' := fun a o ha h1 h2 => eS a o ha (fun z => h1 (by rw [z]; exact List.mem_of_getElem? hx)) h2
  refine h.step st (fun j => j = i) hr (fun a o ha hI hn => eS a o ha (fun z => hI i rfl (by rw [z]; exact hx)) hn) (fun j m y hj hjm hjy => ?_) (fun j hj => if_neg hj) ⟨_, by rw [List.length_set]; exact hld, hP, fun j d' hd' => ?_⟩ (fun j hj => ?_) n7'
  · subst hj
    rw [hi] at hjm
    rw [hx] at hjy
    obtain rfl := Option.some.inj hjm
    obtain rfl := Option.some.inj hjy
    rw [if_pos rfl]
    exact ⟨hand', off1, off2⟩
  · by_cases z : j = i
    · subst z
      rw [List.getElem?_set_self (by omega)] at hd'
      obtain rfl := Option.some.inj hd'
      rw [if_pos rfl]
      exact ⟨hdJ, hdne⟩
    · rw [List.getElem?_set_ne (Ne.symm z)] at hd'
      rw [if_neg z]
      obtain ⟨h1, h2⟩ := hlaw j d' hd'
      exact ⟨h.keepP st fW h1 h2, h2⟩
  · by_cases z : j = i
    · rw [if_pos z]
      exact hB
    · rw [if_neg z]
      exact pgB_mono (h.bd j hj) hN
theorem HandAt.upP {x : Addr} {n : Nm} {p : Pg} {kvs ls : List (Key × V)} (hp : H pgs = some (.dK kvs)) (h : HandAt K CH H x n p) (ho : HandOff CH H x n pgs) : HandAt K CH (upd H pgs (.dK ls)) x n p ∧ ∀ b, HandOff CH H x n b → HandOff CH (upd H pgs (.dK ls)) x n b := by
  refine ⟨h.clr hp ho, fun b hb => ?_⟩
  obtain ⟨dx, pd, a, _⟩ := h
  exact hb.to a (by rw [upd_ne (fun z => by rw [z, hp] at a; cases a)]; exact a)
theorem q_dputX {td tk tv : TE} {σ : L2.St} {D : Ends} {tz : TS} {P : VP} {d : Addr} {kvs : List (Key × V)} {k : Key} (hv : EvX tv σ H P) (hd : Ev td σ H (.ref d)) (hk : Ev tk σ H (kV k)) (h : H d = some (.dK kvs)) (hl : kvs.length < 100000) (hm : ∀ v H1 H2, Ex H1 H2 → P v H1 → P v H2)
    (c : ∀ v H1, Ex H H1 → P v H1 → tz D σ (upd H1 d (.dK (putK kvs k v)))) : tSeq (sDPut td tk tv) tz D σ H := s_dputX (D := { D with nx := tz D }) hv hd hk h hl hm c
theorem m_meth1 {C x dx : Addr} {fs : List (Str × V)} {σ : L2.St} {ta tb : TE} {m : Str} {sp : Sp} {v : V} {Q : VK} {E : XK} (h : Ev ta σ H (.ref x)) (h1 : Ev tb σ H v) (hx : H x = some (.ins C dx fs)) (hm : fs.lookup m = none) (k : ∀ H1, Ex H H1 → sp [.ref x, v] H1 Q E) : tMeth C m sp [] E ta (tCons tb tNil) σ H Q :=
  h H (Ex.refl H) _ fun H1 e1 => ⟨x, dx, fs, rfl, e1 _ _ hx, hm, h1 H1 e1 _ fun H2 e2 => k H2 (e1.trans e2)⟩
theorem m_meth1X {C x dx : Addr} {fs : List (Str × V)} {σ : L2.St} {ta tb : TE} {m : Str} {sp : Sp} {P1 : VP} {Q : VK} {E : XK} (h : Ev ta σ H (.ref x)) (h1 : EvX tb σ H P1) (hx : H x = some (.ins C dx fs)) (hm : fs.lookup m = none) (k : ∀ v H1, Ex H H1 → P1 v H1 → sp [.ref x, v] H1 Q E) : tMeth C m sp [] E ta (tCons tb tNil) σ H Q :=
  h H (Ex.refl H) _ fun H1 e1 => ⟨x, dx, fs, rfl, e1 _ _ hx, hm, h1 H1 e1 _ fun v H2 e2 p => k v H2 (e1.trans e2) p⟩
theorem m_call4 {sp : Sp} {σ : L2.St} {a1 a2 a3 a4 : TE} {Q : VK} {E : XK} {v1 v2 v3 v4 : V} (h1 : Ev a1 σ H v1) (h2 : Ev a2 σ H v2) (h3 : Ev a3 σ H v3) (h4 : Ev a4 σ H v4) (k : ∀ H1, Ex H H1 → sp [v1, v2, v3, v4] H1 Q E) : tCall sp [] E (tCons a1 (tCons a2 (tCons a3 (tCons a4 tNil)))) σ H Q :=
  h1 H (Ex.refl H) _ fun H1 e1 => h2 H1 e1 _ fun H2 e2 => h3 H2 (e1.trans e2) _ fun H3 e3 => h4 H3 ((e1.trans e2).trans e3) _ fun H4 e4 => k H4 (((e1.trans e2).trans e3).trans e4)
/-- {n: (a, b)} as a page -/
theorem x_dispPg {σ : L2.St} {tk tv : TE} {n : Nm} {a b : Int} (hn : NmOk n) (hk : Ev tk σ H (.str (ofL n))) (hv : EvX tv σ H (Tp K [.int a, .int b])) : EvX (tDisp [(tk, tv)]) σ H (CpV K H [(n, a, b)]) := (x_dispT (K := K) hk hv).imp (by
  rintro v H3 e3 ⟨d, r1, rfl, hd0, hd, hr⟩
  exact ⟨d, rfl, hd0, [(.inr (ofL n), .ref r1)], hd, .cons ⟨rfl, r1, rfl, hr⟩ .nil, by simp, (fun e he => by rw [List.mem_singleton.mp he]; exact hn), by simp⟩)
end
def spDeed12 (K : PySem.W.Frag) (CR CH : Addr) : Sp := fun vs H Q _ => ∃ (r hdt pgs na : Addr) (c kk : Int) (nm : List Nm) (ad : List Addr) (N : Nat) (q : Nat → Pg), vs = [.ref r, .ref pgs, .ref na, .int c, .int kk] ∧ SR nm ad ∧ 0 < nm.length ∧ (r ∉ ad ∧ r ≠ pgs) ∧ Wr K CR CH nm ad r hdt pgs N q H ∧ N < 70 ∧ H na = some (.lst (nmS nm)) ∧
  ∀ H' q', FrW ad pgs H H' → Wr K CR CH nm ad r hdt pgs (N + 1) q' H' → Q (.bl true) H'
section
variable {P : Program} {w : World} {K : PySem.W.Frag} {mg : Str → Option Value} {base : Heap}
theorem ok_law_deed (T : Txt K mg) : FnOk P w K mg base CX0 7 T.a_law_deed T.d_law_deed ["_law_room", "_law_pages", "_law_names_here", "_law_cell", "_law_k"] (spDeed12 K T.c_Room T.c_Hand) := by
  refine T.h_law_deed.F.ok sc_law_deed (fun vs H Q E h => ?_) (fun cdv A outer s H vs Q E hr h => ?_)
  · obtain ⟨r, hdt, pgs, na, c, kk, nm, ad, N, q, rfl, _⟩ := h
    rfl
  · obtain ⟨r, hdt, pgs, na, c, kk, nm, ad, N, q, rfl, st, hm0, hr2, wr0, hN, hna0, k⟩ := h
    refine ⟨_, (pss_cons (ps_set (i := 5) sc_law_deed.nd rfl (by first | exact Or.inl rfl | exact Or.inr rfl) (pe_ix ix_list (pv 2) (pe_op op_mod (pe_op op_fdiv (pv 3) pe_int) (pe_callB call_len_seq (by rfl) T.n_len PySem.boot_len (pa_cons (pv 2) pa_nil))) (fun _ _ => rfl))) (pss_cons (ps_set (i := 6) sc_law_deed.nd rfl (by first | exact Or.inl rfl | exact Or.inr rfl) (pe_ix ix_list (pv 2) (pe_op op_mod (pe_op op_fdiv (pv 3) pe_int) (pe_callB call_len_seq (by rfl) T.n_len PySem.boot_len (pa_cons (pv 2) pa_nil))) (fun _ _ => rfl))) (pss_cons (ps_if (pt_cmpR op_lt (pe_op op_mod (pv 3) pe_int) pe_int (nomark _)) (pss_cons (ps_set (i := 7) sc_law_deed.nd rfl (by first | exact Or.inl rfl | exact Or.inr rfl) (pe_op op_add pe_int (pe_op op_mod (pe_op op_fdiv (pv 3) pe_int) pe_int))) (pss_cut (ps_if (pt_cmpR op_eq (pe_op op_mod (pe_op op_fdiv (pv 3) pe_int) pe_int) pe_int (nomark _)) (pss_one (ps_set (i := 7) sc_law_deed.nd rfl (by first | exact Or.inl rfl | exact Or.inr rfl) (pe_op op_add pe_int (pe_op op_mod (pe_op op_fdiv (pv 3) pe_int) pe_int)))) pss_nil) (pss_cons (ps_set (i := 8) sc_law_deed.nd rfl (by first | exact Or.inl rfl | exact Or.inr rfl) (pe_dget2 (hu_of hr) (pe_dget (hu_of hr) (pv 1) (pv 5) (fun _ _ => rfl)) (pv 5) (pe_tup (pa_cons pe_int (pa_cons pe_int pa_nil))) (by refine ⟨?_, ?_, ?_, ?_⟩ <;> rfl))) (pss_cons (ps_dput (hu_of hr) (pv 1) (pv 5) (pe_call (ok_law_joined T) (hr.mono (by decide)) rfl T.h_law_joined.m T.h_law_joined.F.kp T.h_law_joined.b .nil pass0 (pa_cons (pe_dget (hu_of hr) (pv 1) (pv 5) (fun _ _ => rfl)) (pa_cons (pe_disp (pps_cons (pv 5) (pe_tup (pa_cons (pe_op op_add (pe_ix ix_tup (pv 8) pe_int (fun _ _ => rfl)) (pe_op op_mul (pv 7) (pe_op op_sub pe_int (pe_op op_mod (pv 3) pe_int)))) (pa_cons (pe_op op_add (pe_ix ix_tup (pv 8) pe_int (fun _ _ => rfl)) (pe_op op_mul (pv 7) (pe_op op_mod (pv 3) pe_int))) pa_nil))) pps_nil) (by rfl) (by rfl) (fun z => by cases z) (by decide)) pa_nil))) rfl) (pss_cons (ps_set (i := 9) sc_law_deed.nd rfl (by first | exact Or.inl rfl | exact Or.inr rfl) (pe_ifExp (pt_cmpR op_eq (pe_op op_mod (pv 3) pe_int) pe_int (nomark _)) (pe_meth (pe_meth (pv 0) T.cl_Room T.h_Room_hand.m (ok_Room_hand T) (hr.mono (by decide)) T.h_Room_hand.b .nil passL (pa_cons (pv 5) pa_nil)) T.cl_Hand T.h_Hand_up.m (ok_Hand_up T) (hr.mono (by decide)) T.h_Hand_up.b .nil passL (pa_cons (pv 7) pa_nil)) (pe_meth (pe_meth (pv 0) T.cl_Room T.h_Room_hand.m (ok_Room_hand T) (hr.mono (by decide)) T.h_Room_hand.b .nil passL (pa_cons (pv 5) pa_nil)) T.cl_Hand T.h_Hand_down.m (ok_Hand_down T) (hr.mono (by decide)) T.h_Hand_down.b .nil passL (pa_cons (pv 7) pa_nil)))) (pss_one (ps_ret (pe_and (pe_call (ok_law_whole T) (hr.mono (by decide)) rfl T.h_law_whole.m T.h_law_whole.F.kp T.h_law_whole.b .nil pass0 (pa_cons (pv 9) pa_nil)) (pe_one (pe_cmpR op_eq (pv 9) (pe_call (ok_law_total T) (hr.mono (by decide)) rfl T.h_law_total.m T.h_law_total.F.kp T.h_law_total.b .nil pass0 (pa_cons (pe_dget (hu_of hr) (pv 1) (pv 5) (fun _ _ => rfl)) pa_nil)) (nomark _))))))))))) pss_nil) (pss_cons (ps_if (PW.pt (pw_and (pt_cmpR op_eq (pe_op op_mod (pv 3) pe_int) pe_int (nomark _)) (pw_and (pt_cmpR op_eq (pe_op op_mod (pv 4) pe_int) pe_int (nomark _)) (pw_and1 (pt_cmpR op_ne (pv 5) (pv 6) (nomark _)))))) (pss_cons (ps_set (i := 8) sc_law_deed.nd rfl (by first | exact Or.inl rfl | exact Or.inr rfl) (pe_dget2 (hu_of hr) (pe_dget (hu_of hr) (pv 1) (pv 6) (fun _ _ => rfl)) (pv 6) (pe_tup (pa_cons pe_int (pa_cons pe_int pa_nil))) (by refine ⟨?_, ?_, ?_, ?_⟩ <;> rfl))) (pss_cons (ps_set (i := 10) sc_law_deed.nd rfl (by first | exact Or.inl rfl | exact Or.inr rfl) (pe_disp (pps_cons (pv 6) (pe_tup (pa_cons (pe_ix ix_tup (pv 8) pe_int (fun _ _ => rfl)) (pa_cons (pe_op op_add (pe_ix ix_tup (pv 8) pe_int (fun _ _ => rfl)) pe_int) pa_nil))) pps_nil) (by rfl) (by rfl) (fun z => by cases z) (by decide))) (pss_cons (ps_expr (pe_meth (pe_meth (pv 0) T.cl_Room T.h_Room_hand.m (ok_Room_hand T) (hr.mono (by decide)) T.h_Room_hand.b .nil passL (pa_cons (pv 5) pa_nil)) T.cl_Hand T.h_Hand_hear.m (ok_Hand_hear T) (hr.mono (by decide)) T.h_Hand_hear.b .nil passL (pa_cons (pe_callTy call_dictD (by rfl) T.n_dict (by decide +kernel) (pa_cons (pv 10) pa_nil)) pa_nil))) (pss_cons (ps_dput (hu_of hr) (pv 1) (pv 5) (pe_call (ok_law_joined T) (hr.mono (by decide)) rfl T.h_law_joined.m T.h_law_joined.F.kp T.h_law_joined.b .nil pass0 (pa_cons (pe_dget (hu_of hr) (pv 1) (pv 5) (fun _ _ => rfl)) (pa_cons (pv 10) pa_nil))) rfl) (pss_one (ps_ret pe_bl)))))) pss_nil) (pss_cut (ps_if (PW.pt (pw_and (pt_cmpR op_eq (pe_op op_mod (pv 3) pe_int) pe_int (nomark _)) (pw_and1 (pt_cmpR op_eq (pe_op op_mod (pv 4) pe_int) pe_int (nomark _))))) (pss_one (ps_set (i := 6) sc_law_deed.nd rfl (by first | exact Or.inl rfl | exact Or.inr rfl) (pe_call (ok_law_strange T) (hr.mono (by decide)) rfl T.h_law_strange.m T.h_law_strange.F.kp T.h_law_strange.b .nil pass0 (pa_cons (pv 2) (pa_cons (pe_op op_fdiv (pv 3) pe_int) pa_nil))))) pss_nil) (pss_cons (ps_if (PW.pt (pw_and (pt_cmpR op_eq (pe_op op_mod (pv 3) pe_int) pe_int (nomark _)) (pw_and1 (pt_cmpR op_eq (pe_op op_mod (pv 4) pe_int) pe_int (nomark _))))) (pss_one (ps_ret (pe_call (ok_law_meeting T) (hr.mono (by decide)) rfl T.h_law_meeting.m T.h_law_meeting.F.kp T.h_law_meeting.b .nil pass0 (pa_cons (pv 0) (pa_cons (pv 1) (pa_cons (pv 6) (pa_cons (pv 5) pa_nil))))))) pss_nil) (pss_one (ps_ret (pe_call (ok_law_meeting T) (hr.mono (by decide)) rfl T.h_law_meeting.m T.h_law_meeting.F.kp T.h_law_meeting.b .nil pass0 (pa_cons (pv 0) (pa_cons (pv 1) (pa_cons (pv 5) (pa_cons (pv 6) pa_nil))))))))))))), ?_⟩
    have hm : (0 : Int) < (nm.length : Int) := by omega
    have hnl : (nmS nm).length = nm.length := List.length_map ..
    have hat : ∀ {i : Nat} {n : Nm}, nm[i]? = some n → atI (nmS nm) (i : Int) = some (.str (ofL n)) := fun hi => atI_nat (by unfold nmS; rw [List.getElem?_map, hi]; rfl)
    obtain ⟨i, hi0⟩ : ∃ i : Nat, c / 6 % (nm.length : Int) = (i : Int) := ⟨_, (Int.toNat_of_nonneg (Int.emod_nonneg _ (by omega))).symm⟩
    obtain ⟨j, hj0⟩ : ∃ i : Nat, c / 144 % (nm.length : Int) = (i : Int) := ⟨_, (Int.toNat_of_nonneg (Int.emod_nonneg _ (by omega))).symm⟩
    have hi1 := Int.emod_lt_of_pos (c / 6) hm
    have hj1 := Int.emod_lt_of_pos (c / 144) hm
    rw [hi0] at hi1
    rw [hj0] at hj1
    have hil : i < nm.length := by omega
    have hjl : j < nm.length := by omega
    have hi : nm[i]? = some nm[i] := List.getElem?_eq_getElem hil
    have hj : nm[j]? = some nm[j] := List.getElem?_eq_getElem hjl
    have hx : ad[i]? = some (ad[i]'(by rw [st.la]; exact hil)) := List.getElem?_eq_getElem _
    generalize nm[i] = n at hi
    generalize nm[j] = n2 at hj
    generalize ad[i]'(by rw [st.la]; exact hil) = x at hx
    refine q_asg (v := .str (ofL n)) (ev_op (ev_var rfl) (ev_is (ev_op (ev_op (ev_var rfl) ev_c (rv_I ⟨by decide, by decide⟩)) (ev_is (ev_cb (ea_cons (ev_var rfl) ea_nil) (rc_lenL (sq_of hna0))) (by rw [hnl])) (rv_I (by show (0 : Int) < _; omega))) (by rw [hi0])) (rv_ixL (sq_of hna0) (hat hi))) fun H1 e1 => ?_
    refine q_asg (v := .str (ofL n2)) (ev_op (ev_var rfl) (ev_is (ev_op (ev_op (ev_var rfl) ev_c (rv_I ⟨by decide, by decide⟩)) (ev_is (ev_cb (ea_cons (ev_var rfl) ea_nil) (rc_lenL (sq_of (e1 _ _ hna0)))) (by rw [hnl])) (rv_I (by show (0 : Int) < _; omega))) (by rw [hj0])) (rv_ixL (sq_of (e1 _ _ hna0)) (hat hj))) fun H2 e2 => ?_
    have e02 := e1.trans e2
    have wr := wr0.mono e02
    have hna := e02 _ _ hna0
    have kF : ∀ {H'}, FrW ad pgs H2 H' → FrW ad pgs H H' := fun f a o ha h1 h2 => f a o (e02 _ _ ha) h1 h2
    obtain ⟨ld, hld, hpg, hlaw⟩ := wr.law
    have hd1 : ld[i]? = some (ld[i]'(by omega)) := List.getElem?_eq_getElem _
    have hd2 : ld[j]? = some (ld[j]'(by omega)) := List.getElem?_eq_getElem _
    generalize ld[i]'(by omega) = d1 at hd1
    generalize ld[j]'(by omega) = d2 at hd2
    obtain ⟨hq1, hne1⟩ := hlaw i d1 hd1
    obtain ⟨hq2, hne2⟩ := hlaw j d2 hd2
    have hv1 : valV (roomK nm ld) (.inr (ofL n)) = some (.ref d1) := by rw [room_val, look_at st.nd hi hd1]; rfl
    have hv2 : valV (roomK nm ld) (.inr (ofL n2)) = some (.ref d2) := by rw [room_val, look_at st.nd hj hd2]; rfl
    have hlk := look_at st.nd hi hx
    obtain ⟨⟨p, hp, hge⟩, o1, o2⟩ := wr.hand i n x hi hx
    have hB1 := wr.bd i hil
    have hB2 := wr.bd j hjl
    have hgn := st.gd n (List.mem_of_getElem? hi)
    have hgn2 := st.gd n2 (List.mem_of_getElem? hj)
    have hnk : NmOk n := nm_of (z := ofL n) (nameOk_good hgn)
    have hnk2 : NmOk n2 := nm_of (z := ofL n2) (nameOk_good hgn2)
    have hlq1 := pgB_len hB1 hq1.nd
    have hlp := ge_len hp.nd hq1.nd hge
    have hle := st.le
    obtain ⟨dx, pd, hxi, _⟩ := id hp
    have hxp : x ≠ pgs := fun z => by rw [z, hpg] at hxi; cases hxi
    have hss : ∀ {M : Nat} {qq : Pg} (z : Nm), PgB nm M qq → 0 ≤ ((getP qq z).getD (0, 0)).1 ∧ 0 ≤ ((getP qq z).getD (0, 0)).2 ∧ ((getP qq z).getD (0, 0)).1 ≤ 1000 * (M : Int) ∧ ((getP qq z).getD (0, 0)).2 ≤ 1000 * (M : Int) := fun {M qq} z hB => by
      cases c : getP qq z with
      | none => exact ⟨Int.le_refl 0, Int.le_refl 0, by show (0 : Int) ≤ _; omega, by show (0 : Int) ≤ _; omega⟩
      | some t =>
        obtain ⟨_, h2, h3, h4⟩ := hB _ (getP_is c)
        exact ⟨h2.1, h2.2.1, h3, h4⟩
    refine q_when (b := decide (c % 6 < 2)) (by walk_at "ev") (fun hb H3 e3 => ?_) (fun hb H3 e3 => ?_)
    · have hc2 : c % 6 = 0 ∨ c % 6 = 1 := by
        have := Int.emod_nonneg c (by decide : (6 : Int) ≠ 0)
        have := of_decide_eq_true hb
        omega
      have v1 := Int.emod_nonneg (c / 3456) (by decide : (999 : Int) ≠ 0)
      have v2 := Int.emod_lt_of_pos (c / 3456) (by decide : (0 : Int) < 999)
      have v3 := Int.emod_nonneg (c / 13824) (by decide : (3 : Int) ≠ 0)
      have v4 := Int.emod_lt_of_pos (c / 13824) (by decide : (0 : Int) < 3)
      refine q_asg (v := .int (1 + c / 3456 % 999)) (by walk_at "ev") fun H4 e4 => ?_
      refine q_cut (M := fun σ' H' => ∃ m : Int, σ' = [some (.ref r), some (.ref pgs), some (.ref na), some (.int c), some (.int kk), some (.str (ofL n)), some (.str (ofL n2)), some (.int m), none, none, none] ∧ Ex H2 H' ∧ 1 ≤ m ∧ m ≤ 999) ?_ ?_
      · refine s_when (b := decide (V.int (c / 3456 % 4) = V.int 0)) (by walk_at "ev") (fun _ H5 e5 => ?_) (fun _ H5 e5 => ?_)
        · exact s_asg (v := .int (1 + c / 13824 % 3)) (by walk_at "ev") fun H6 e6 => ⟨_, rfl, ((e3.trans e4).trans e5).trans e6, by omega, by omega⟩
        · exact ⟨_, rfl, (e3.trans e4).trans e5, by omega, by omega⟩
      rintro σ' H5 ⟨m, rfl, e25, hm1, hm2⟩
      have hpg5 := e25 _ _ hpg
      have hq15 := hq1.mono e25
      refine qx_asg (x_dget2 (K := K) (s0 := (0, 0)) (ev_dgetN (ev_var rfl) (ev_var rfl) hpg5 hv1) (ev_var rfl) (x_tupT (K := K) (vs := [.int 0, .int 0]) (by walk_at "ev")) hq15.rd) ?_
      rintro v H6 e6 ⟨t1, rfl, ht1⟩
      have hs0 := hss n hB1
      generalize hs : (getP (q i) n).getD (0, 0) = s at ht1 hs0
      have e26 := e25.trans e6
      have hpg6 := e6 _ _ hpg5
      have hq16 := hq15.mono e6
      obtain ⟨a1, a2, ha1, ha2, ha12, hab⟩ : ∃ a1 a2 : Int, m * (1 - c % 6) = a1 ∧ m * (c % 6) = a2 ∧ 0 < a1 + a2 ∧ ((c % 6 = 0 ∧ a1 = m ∧ a2 = 0) ∨ (c % 6 = 1 ∧ a1 = 0 ∧ a2 = m)) := by
        refine ⟨_, _, rfl, rfl, ?_, ?_⟩
        · rcases hc2 with z | z <;> rw [z] <;> omega
        · rcases hc2 with z | z
          · left
            rw [z]
            omega
          · right
            rw [z]
            omega
      have ha1n : 0 ≤ a1 := by omega
      have ha2n : 0 ≤ a2 := by omega
      refine q_dputX (k := .inr (ofL n)) (P := LjV K H6 (q i) [(n, s.1 + a1, s.2 + a2)]) (x_call2 (x_ev (ev_dgetN (ev_var rfl) (ev_var rfl) hpg6 hv1)) (x_dispPg (K := K) (a := s.1 + a1) (b := s.2 + a2) hnk (ev_var rfl) (x_tupT (K := K) (ea_cons (ev_op (ev_op (ev_var rfl) ev_c (rv_ixT ht1 rfl)) (ev_is (ev_op (ev_var rfl) (ev_op ev_c (ev_op (ev_var rfl) ev_c (rv_I (by show (0 : Int) < _; decide))) rv_I0) (rv_I (.inl ⟨by omega, by omega⟩))) (by rw [ha1])) rv_I0) (ea_cons (ev_op (ev_op (ev_var rfl) ev_c (rv_ixT ht1 rfl)) (ev_is (ev_op (ev_var rfl) (ev_op (ev_var rfl) ev_c (rv_I (by show (0 : Int) < _; decide))) (rv_I (.inl ⟨by omega, by omega⟩))) (by rw [ha2])) rv_I0) ea_nil)))) ?_) (ev_var rfl) (ev_var rfl) hpg6 (by rw [roomK_len hld]; omega) (fun v Ha Hb e ⟨d, rr, a, b, cc, g⟩ => ⟨d, rr, a, b, cc.mono e, g⟩) ?_
      · rintro _ _ H7 e7 rfl ⟨dd, rfl, hdd0, hdd⟩
        exact sx_of ((d1, dd), q i, [(n, s.1 + a1, s.2 + a2)]) (fun H8 e8 => ⟨(hq16.mono e7).mono e8, hdd.mono e8, by show (q i).length + 1 ≤ 900; omega⟩) fun H8 _ H9 e8 _ ⟨d, rr, a, b, cc, g⟩ => ⟨d, rr, a, fresh_back (e7.trans e8) b, cc, g⟩
      rintro v H7 e7 ⟨d, rJ, rfl, hdn, hdJ, hgJ⟩
      rw [roomK_put st.nd hld hi]
      have hpg7 := e7 _ _ hpg6
      have hdp : d ≠ pgs := fun z => by rw [z, hpg6] at hdn; cases hdn
      have hgA : ∀ z, getP rJ z = addG (q i) n a1 a2 z := fun z => by rw [hgJ, ← hs, addG_of ha1n ha2n]
      have e27 := e26.trans e7
      have eA : ∀ a o, H2 a = some o → a ≠ pgs → upd H7 pgs (.dK (roomK nm (ld.set i d))) a = some o := fun a o ha hn => by rw [upd_ne hn]; exact e27 _ _ ha
      have hPA : upd H7 pgs (.dK (roomK nm (ld.set i d))) pgs = some (.dK (roomK nm (ld.set i d))) := upd_same
      have hdA : PgAt K (upd H7 pgs (.dK (roomK nm (ld.set i d)))) d rJ := hdJ.upd hpg7 hdp
      obtain ⟨hpA, hoA⟩ := (hp.mono e27).upP (ls := roomK nm (ld.set i d)) hpg7 (o2.mono hp e27)
      have oA1 := hoA _ (o1.mono hp e27)
      have oA2 := hoA _ (o2.mono hp e27)
      generalize upd H7 pgs (.dK (roomK nm (ld.set i d))) = HA at eA hPA hdA hpA oA1 oA2
      have hRA : RoomAt T.c_Room HA r hdt nm ad := ⟨let ⟨dr, h⟩ := wr.room.1; ⟨dr, eA _ _ h hr2.2⟩, eA _ _ wr.room.2 wr.ne⟩
      have hxA := eA _ _ hxi hxp
      have hld' : (ld.set i d).length = nm.length := by rw [List.length_set]; exact hld
      have hvJ : valV (roomK nm (ld.set i d)) (.inr (ofL n)) = some (.ref d) := by rw [room_val, look_at st.nd hi (List.getElem?_set_self (by omega))]; rfl
      have hBJ : PgB nm (N + 1) rJ := fun e he => by
        have h1 := getP_mem hdJ.nd e he
        rw [hgA] at h1
        unfold addG at h1
        by_cases z : e.1 = n
        · rw [if_pos z, hs] at h1
          have h2 : (s.1 + a1, s.2 + a2) = e.2 := Option.some.inj h1
          obtain ⟨s1, s2, s3, s4⟩ := hs0
          refine ⟨by rw [z]; exact List.mem_of_getElem? hi, ?_, ?_, ?_⟩
          · rw [← h2]
            exact ⟨by show 0 ≤ s.1 + a1; omega, by show 0 ≤ s.2 + a2; omega, fun w => by
              have w1 : s.1 + a1 = 0 := w.1
              have w2 : s.2 + a2 = 0 := w.2
              omega⟩
          · rw [← h2]
            show s.1 + a1 ≤ _
            omega
          · rw [← h2]
            show s.2 + a2 ≤ _
            omega
        · rw [if_neg z] at h1
          exact pgB_mono hB1 (by omega) _ (getP_is h1)
      have fin : ∀ (σ : L2.St) (H9 : Hp) (f : Pg) (b1 b2 : Int), σ = [some (.ref r), some (.ref pgs), some (.ref na), some (.int c), some (.int kk), some (.str (ofL n)), some (.str (ofL n2)), some (.int m), some (.ref t1), some (.int (totP f)), none] → ExX x HA H9 → HandAt K T.c_Hand H9 x n f → (∀ b o, HA b = some o → HandOff T.c_Hand H9 x n b) → (∀ z, getP f z = addG p n b1 b2 z) → b1 = a1 → b2 = a2 →
          tRet (tAndV (tCall spWhole [] E0 (tCons (tVar 9) tNil)) (tOp rEq (tVar 9) (tCall (spLawTotal K) [] E0 (tCons (tDGet (tVar 1) (tVar 5)) tNil)))) { nx := fun x H' => Q V.non H', rt := Q } σ H9 := by
        rintro _ H9 f b1 b2 rfl eX hf off9 hgf rfl rfl
        have hge9 : GE f rJ := fun z => by rw [hgf, hgA, addG_congr hge]
        have hP9 : H9 pgs = some (.dK (roomK nm (ld.set i d))) := eX _ _ hPA (Ne.symm hxp)
        have hd9 : PgAt K H9 d rJ := eX.pg hxA hdA
        have hperm := perm_get hf.nd hdJ.nd hge9
        refine s_ret (v := .bl true) (ev_is (ev_andV (a := true) (ev_call (ea_cons (ev_var rfl) ea_nil) sv_whole) fun _ => ev_op (ev_var rfl) (ev_call (ea_cons (ev_dgetN (ev_var rfl) (ev_var rfl) hP9 hvJ) ea_nil) (sv_lawTotal hd9)) (rv_eq rfl)) (by rw [totP_perm hperm]; simp)) fun H10 e10 => ?_
        have wr9 : Wr K T.c_Room T.c_Hand nm ad r hdt pgs (N + 1) (fun j => if j = i then rJ else q j) H9 := wr.one st hi hx hr2 hld hlaw (fun a o ha h1 h2 => eX _ _ (eA a o ha h2) h1) hP9 hd9 hdp ⟨f, hf, hge9⟩ (off9 _ _ hRA.2) (off9 _ _ hPA) hBJ (by omega) (by omega)
        exact k H10 _ (kF fun a o ha h1 h2 => e10 _ _ (eX _ _ (eA a o ha h2) (fun z => h1 (by rw [z]; exact List.mem_of_getElem? hx)))) (wr9.mono e10)
      have hamt : amtOk (.inl m) = true := by
        show (decide (1 ≤ m) && decide (m ≤ 1000000000)) = true
        rw [decide_eq_true hm1, decide_eq_true (by omega)]
        rfl
      rcases hab with ⟨z, z1, z2⟩ | ⟨z, z1, z2⟩
      · refine (et_test (ev_op (ev_op (ev_var rfl) ev_c (rv_I (by show (0 : Int) < _; decide))) ev_c (rv_eq rfl)) : EvT _ _ HA (decide (V.int (c % 6) = V.int 0))) HA (Ex.refl _) _ fun H8 e8 => ?_
        rw [decide_eq_true (by rw [z])]
        refine m_meth1 (ev_rhand (K := K) (ev_var rfl) (ev_var rfl) (hRA.mono e8) st.gd hlk) (v := .int m) (ev_var rfl) (e8 _ _ hxA) (hfs_no n pd (by decide +kernel) (by decide +kernel)) fun H9 e9 => ?_
        refine ⟨x, n, p, .inl m, rfl, (hpA.mono e8).mono e9, trivial, by omega, fun m' hm' _ H10 f eX hf off hgf _ => ?_, fun hno => by rw [hamt] at hno; cases hno⟩
        obtain rfl := Sum.inl.inj hm'
        exact fin _ H10 f _ _ rfl ((ExX.of (e8.trans e9)).trans eX) hf (fun b o hb => off b o (e9 _ _ (e8 _ _ hb))) hgf z1.symm z2.symm
      · refine (et_test (ev_op (ev_op (ev_var rfl) ev_c (rv_I (by show (0 : Int) < _; decide))) ev_c (rv_eq rfl)) : EvT _ _ HA (decide (V.int (c % 6) = V.int 0))) HA (Ex.refl _) _ fun H8 e8 => ?_
        rw [decide_eq_false (fun y => by have := V.int.inj y; omega)]
        refine m_meth1 (ev_rhand (K := K) (ev_var rfl) (ev_var rfl) (hRA.mono e8) st.gd hlk) (v := .int m) (ev_var rfl) (e8 _ _ hxA) (hfs_no n pd (by decide +kernel) (by decide +kernel)) fun H9 e9 => ?_
        refine ⟨x, n, p, .inl m, rfl, (hpA.mono e8).mono e9, trivial, by omega, fun m' hm' _ H10 f eX hf off hgf _ => ?_, fun hno => by rw [hamt] at hno; cases hno⟩
        obtain rfl := Sum.inl.inj hm'
        exact fin _ H10 f _ _ rfl ((ExX.of (e8.trans e9)).trans eX) hf (fun b o hb => off b o (e9 _ _ (e8 _ _ hb))) hgf z1.symm z2.symm
    · have wr3 := wr.mono e3
      refine q_when (b := decide (V.int (c % 6) = V.int 2) && (decide (V.int (kk % 5) = V.int 0) && !decide (V.str (ofL n) = V.str (ofL n2)))) (et_and (by walk_at "ev") fun _ => et_and (by walk_at "ev") fun _ => et_test (ev_op (ev_var rfl) (ev_var rfl) (rv_ne rfl))) (fun hb2 H4 e4 => ?_) (fun hb2 H4 e4 => ?_)
      · have hnn : n ≠ n2 := fun z => by
          rw [z] at hb2
          simp at hb2
        have e24 := e3.trans e4
        have hpg4 := e24 _ _ hpg
        refine qx_asg (x_dget2 (K := K) (s0 := (0, 0)) (ev_dgetN (ev_var rfl) (ev_var rfl) hpg4 hv2) (ev_var rfl) (x_tupT (K := K) (vs := [.int 0, .int 0]) (by walk_at "ev")) (hq2.mono e24).rd) ?_
        rintro v H5 e5 ⟨t1, rfl, ht1⟩
        have hs0 := hss n2 hB2
        generalize hs : (getP (q j) n2).getD (0, 0) = s at ht1 hs0
        refine qx_asg (x_dispPg (K := K) (a := s.1) (b := s.2 + 1) hnk2 (ev_var rfl) (x_tupT (K := K) (ea_cons (ev_op (ev_var rfl) ev_c (rv_ixT ht1 rfl)) (ea_cons (ev_op (ev_op (ev_var rfl) ev_c (rv_ixT ht1 rfl)) ev_c rv_I0) ea_nil)))) ?_
        rintro v H6 e6 ⟨dm, rfl, hdm0, hdm⟩
        have e26 := (e24.trans e5).trans e6
        obtain ⟨s1, s2, s3, s4⟩ := hs0
        have hBm : PgB nm (N + 1) [(n2, s.1, s.2 + 1)] := fun e he => by
          rw [List.mem_singleton.mp he]
          refine ⟨List.mem_of_getElem? hj, ⟨by show 0 ≤ s.1; omega, by show 0 ≤ s.2 + 1; omega, fun w => ?_⟩, by show s.1 ≤ _; omega, by show s.2 + 1 ≤ _; omega⟩
          have w2 : s.2 + 1 = 0 := w.2
          omega
        have hGm := pgB_good st.gd (by omega) hBm
        have hp6 := hp.mono e26
        have hR6 := wr.room.mono e26
        refine m_meth1X (ev_rhand (K := K) (ev_var rfl) (ev_var rfl) hR6 st.gd hlk) (x_copyPg (K := K) (ev_var rfl) hdm) (e26 _ _ hxi) (hfs_no n pd (by decide +kernel) (by decide +kernel)) fun v H7 e7 hv7 => ?_
        obtain ⟨dc, rfl, hdc0, hdc⟩ := hv7
        have e27 := e26.trans e7
        have hre : reachB ((getP p n).getD (0, 0)) ((getP ([(n2, s.1, s.2 + 1)] : Pg) n).getD (0, 0)) = true := by
          have h1 : getP ([(n2, s.1, s.2 + 1)] : Pg) n = none := by
            rw [getP_cons, if_neg (fun z => hnn z.symm)]
            rfl
          have h2 := hss n hB1
          rw [h1, hge]
          unfold reachB
          rw [Bool.and_eq_true, decide_eq_true_iff, decide_eq_true_iff]
          exact ⟨h2.1, h2.2.1⟩
        refine ⟨x, .ref dc, n, p, rfl, hp.mono e27, .inl ⟨dc, [(n2, s.1, s.2 + 1)], rfl, hdc, hGm, by show 1 ≤ 200; omega, by omega, fun _ => ?_, fun z => by rw [hre] at z; cases z⟩⟩
        intro H8 f eX hf off8 hgf _
        dsimp only
        have hxA := e27 _ _ hxi
        have e8 : ∀ a o, H2 a = some o → a ≠ x → H8 a = some o := fun a o ha hn => eX _ _ (e27 _ _ ha) hn
        have hpg8 : H8 pgs = some (.dK (roomK nm ld)) := e8 _ _ hpg (Ne.symm hxp)
        have hdm8 : PgAt K H8 dm [(n2, s.1, s.2 + 1)] := eX.pg hxA (hdm.mono e7)
        have hq18 : PgAt K H8 d1 (q i) := eX.pg hxA (hq1.mono e27)
        refine q_dputX (k := .inr (ofL n)) (P := LjV K H8 (q i) [(n2, s.1, s.2 + 1)]) (x_lawJoin (K := K) (ev_dgetN (ev_var rfl) (ev_var rfl) hpg8 hv1) (ev_var rfl) hq18 hdm8 (by show (q i).length + 1 ≤ 900; omega)) (ev_var rfl) (ev_var rfl) hpg8 (by rw [roomK_len hld]; omega) (fun v Ha Hb e ⟨d, rr, a, b, cc, g⟩ => ⟨d, rr, a, b, cc.mono e, g⟩) ?_
        rintro v H9 e9 ⟨d, rJ, rfl, hdn, hdJ, hgJ⟩
        rw [roomK_put st.nd hld hi]
        have hdp : d ≠ pgs := fun z => by rw [z, hpg8] at hdn; cases hdn
        have hpg9 := e9 _ _ hpg8
        have hge9 : GE f rJ := fun z => by rw [hgf, hgJ, joinG_congr hge]
        have hf9 := hf.mono e9
        have off9 := (off8 pgs _ (e27 _ _ hpg)).mono hf e9
        obtain ⟨hfA, hoA⟩ := hf9.upP (ls := roomK nm (ld.set i d)) hpg9 off9
        have hBJ : PgB nm (N + 1) rJ := cmb_bd (pgB_mono hB1 (by omega)) hBm hdJ.nd fun z => by rw [hgJ, joinG_cmb (fun e he => (hBm e he).2.1)]
        have wrA : Wr K T.c_Room T.c_Hand nm ad r hdt pgs (N + 1) (fun j => if j = i then rJ else q j) (upd H9 pgs (.dK (roomK nm (ld.set i d)))) := wr.one st hi hx hr2 hld hlaw (fun a o ha h1 h2 => by rw [upd_ne h2]; exact e9 _ _ (e8 a o ha h1)) upd_same (hdJ.upd hpg9 hdp) hdp ⟨f, hfA, hge9⟩ (hoA _ ((off8 hdt _ (e27 _ _ wr.room.2)).mono hf e9)) (hoA _ off9) hBJ (by omega) (by omega)
        exact s_ret ev_c fun H10 e10 => k H10 _ (kF fun a o ha h1 h2 => e10 _ _ (by rw [upd_ne h2]; exact e9 _ _ (e8 a o ha (fun z => h1 (by rw [z]; exact List.mem_of_getElem? hx))))) (wrA.mono e10)
      · refine q_cut (M := fun σ' H' => ∃ z : Nm, σ' = [some (.ref r), some (.ref pgs), some (.ref na), some (.int c), some (.int kk), some (.str (ofL n)), some (.str (ofL z)), none, none, none, none] ∧ Ex H2 H' ∧ z.length ≤ 20) ?_ ?_
        · refine s_when (b := decide (V.int (c % 6) = V.int 3) && decide (V.int (kk % 4) = V.int 0)) (et_and (by walk_at "ev") fun _ => by walk_at "ev") (fun _ H5 e5 => ?_) (fun _ H5 e5 => ?_)
          · refine sx_asg (P := fun v _ => ∃ z : Nm, v = .str (ofL z) ∧ z.length ≤ 20 ∧ z ∉ nm) (x_call2 (x_ev (ev_var (v := .ref na) rfl)) (x_ev (v := .int (c / 6)) (by walk_at "ev")) (by
              rintro _ _ H6 e6 rfl rfl
              exact sx_of (na, c / 6, nm) (fun H7 e7 => ⟨ex_l (((e3.trans e4).trans e5).trans (e6.trans e7)) (sq_of hna), st.le, st.gx⟩) fun _ _ _ _ _ h => h)) ?_
            rintro v H6 e6 ⟨z, rfl, hz, _⟩
            exact ⟨z, rfl, ((e3.trans e4).trans e5).trans e6, hz⟩
          · have := hgn2.2.1
            exact ⟨n2, rfl, (e3.trans e4).trans e5, by omega⟩
        rintro σ' H5 ⟨z, rfl, e25, hz⟩
        have hn8 := hgn.2.1
        refine q_when (b := decide (V.int (c % 6) = V.int 3) && decide (V.int (kk % 8) = V.int 0)) (et_and (by walk_at "ev") fun _ => by walk_at "ev") (fun _ H6 e6 => ?_) (fun _ H6 e6 => ?_)
        · refine m_call4 (ev_var rfl) (ev_var rfl) (ev_var rfl) (ev_var rfl) fun H7 e7 => ?_
          have e27 := (e25.trans e6).trans e7
          exact ⟨r, hdt, pgs, nm, ad, N, q, z, n, rfl, st, hr2, wr.mono e27, by omega, by omega, fun H' q' fr wr' => k H' q' (kF fun a o ha h1 h2 => fr a o (e27 _ _ ha) h1 h2) (wr'.more hN)⟩
        · refine m_call4 (ev_var rfl) (ev_var rfl) (ev_var rfl) (ev_var rfl) fun H7 e7 => ?_
          have e27 := (e25.trans e6).trans e7
          exact ⟨r, hdt, pgs, nm, ad, N, q, n, z, rfl, st, hr2, wr.mono e27, by omega, by omega, fun H' q' fr wr' => k H' q' (kF fun a o ha h1 h2 => fr a o (e27 _ _ ha) h1 h2) (wr'.more hN)⟩
end

--CUT l12g
/-! ### the room made, its pages beside the law's -/
section
variable {P : Program} {w : World} {K : PySem.W.Frag} {mg : Str → Option Value} {base : Heap}
theorem x_makeRoom {T : Txt K mg} {σ : L2.St} {H : Hp} {ta : TE} {E : XK} {l : Addr} {nm : List Nm} (h1 : Ev ta σ H (.ref l)) (hl : H l = some (.lst (nmS nm))) (hn : nm.length ≤ 24) (hnd : nm.Nodup) (hg : ∀ n ∈ nm, GoodN n) :
    EvX (tMake T.c_Room (spRInit K T.c_Room T.c_Hand T.c_NoName) [] E (tCons ta tNil)) σ H (fun v H2 => ∃ r hd ad, v = .ref r ∧ H r = none ∧ RoomAt T.c_Room H2 r hd nm ad ∧ H hd = none ∧ ad.length = nm.length ∧ ad.Nodup ∧ r ∉ ad ∧ (∀ x ∈ ad, H x = none) ∧ ∀ (i : Nat) n x, nm[i]? = some n → ad[i]? = some x → HandAt K T.c_Hand H2 x n [] ∧ HandOff T.c_Hand H2 x n hd) := fun H1 e Q q =>
  h1 H1 e _ fun H2 e2 => fun x dx hx hdx hne => by
    have eU : Ex H2 (upd (upd H2 dx (.own x)) x (.ins T.c_Room dx [])) := (Ex.new hdx).trans (Ex.new (by rw [upd_ne (Ne.symm hne)]; exact hx))
    refine ⟨x, dx, l, nm, [], rfl, upd_same, ?_, by omega, hnd, hg, .inl ⟨rfl, fun H' hd ad eX hR hd0 hal han hnew hall => ⟨rfl, q _ H' (fun a o ha => ?_) ⟨x, hd, ad, rfl, fresh_back e (fresh_back e2 hx), hR, fresh_back (e.trans (e2.trans eU)) hd0, hal, han, fun hm => ?_, fun y hy => fresh_back (e.trans (e2.trans eU)) (hnew y hy), fun i n y hi hy => ?_⟩⟩⟩⟩
    · rw [List.append_nil]
      exact sq_of (eU _ _ (e2 _ _ (e _ _ hl)))
    · have ha2 := e2 a o ha
      exact eX a o (eU a o ha2) fun z => by rw [z, hx] at ha2; cases ha2
    · have := hnew x hm
      rw [upd_same] at this
      cases this
    · obtain ⟨h1, _, h3⟩ := hall i n y hi hy
      exact ⟨h1, h3⟩
end
section
variable {K : PySem.W.Frag} {CR CH : Addr} {nm : List Nm} {ad ld : List Addr} {r hdt pgs : Addr} {N N' : Nat} {q : Nat → Pg} {H H' : Hp} {σ : L2.St} {D : Ends} {tz : TS} {td : TE}
theorem q_lclear {l : Addr} {xs : List V} (h : Ev td σ H (.ref l)) (hl : H l = some (.lst xs)) (k : ∀ H1, Ex H H1 → tz D σ (upd H1 l (.lst []))) : tSeq (tDrop (tBM0 K "list" rClear td)) tz D σ H :=
  h H (Ex.refl H) _ fun H1 e1 => ⟨Or.inl ⟨rfl, xs, sq_of (e1 l _ hl)⟩, l, xs, rfl, rfl, e1 _ _ hl, k H1 e1⟩
theorem q_clrX {p : Pg} (h : EvX td σ H (CpV K H p)) (k : ∀ H1, Ex H H1 → tz D σ H1) : tSeq (tDrop (tBM0 K "dict" rDClear td)) tz D σ H :=
  h H (Ex.refl H) _ fun v H1 e1 ⟨d, ev, hd0, ks, hd, _⟩ => by
    subst ev
    exact ⟨.inr (.inr (.inl ⟨rfl, .inl ⟨ks, hd⟩⟩)), d, ks, rfl, rfl, hd, k _ (Ex.mut e1 hd0)⟩
theorem RoomAt.updL {l : Addr} {xs ys : List V} (hl : H l = some (.lst xs)) (h : RoomAt CR H r hdt nm ad) : RoomAt CR (upd H l (.lst ys)) r hdt nm ad := by
  obtain ⟨⟨dr, h1⟩, h2⟩ := h
  exact ⟨⟨dr, by rw [upd_ne (fun z => by rw [z, hl] at h1; cases h1)]; exact h1⟩, by rw [upd_ne (fun z => by rw [z, hl] at h2; cases h2)]; exact h2⟩
theorem HandAt.updL {x : Addr} {n : Nm} {p : Pg} {xs ys : List V} {l : Addr} (hl : H l = some (.lst xs)) (h : HandAt K CH H x n p) : HandAt K CH (upd H l (.lst ys)) x n p := by
  obtain ⟨dx, pd, h1, h2, h3⟩ := h
  exact ⟨dx, pd, by rw [upd_ne (fun z => by rw [z, hl] at h1; cases h1)]; exact h1, h2.updL hl, h3⟩
theorem m_call5E {sp : Sp} {a1 a2 a3 a4 a5 : TE} {Q : VK} {E : XK} {v1 v2 v3 v4 v5 : V} (h1 : Ev a1 σ H v1) (h2 : Ev a2 σ H v2) (h3 : Ev a3 σ H v3) (h4 : Ev a4 σ H v4) (h5 : Ev a5 σ H v5) (k : ∀ H1, Ex H H1 → sp [v1, v2, v3, v4, v5] H1 Q E) : tCall sp [] E (tCons a1 (tCons a2 (tCons a3 (tCons a4 (tCons a5 tNil))))) σ H Q :=
  h1 H (Ex.refl H) _ fun H1 e1 => h2 H1 e1 _ fun H2 e2 => h3 H2 (e1.trans e2) _ fun H3 e3 => h4 H3 ((e1.trans e2).trans e3) _ fun H4 e4 => h5 H4 (((e1.trans e2).trans e3).trans e4) _ fun H5 e5 => k H5 ((((e1.trans e2).trans e3).trans e4).trans e5)
theorem sv_metNone {z1 z2 : Nm} (hR : RoomAt CR H r hdt nm ad) (hg : ∀ n ∈ nm, GoodN n) (hz1 : z1.length ≤ 3000) (hz2 : z2.length ≤ 3000) (hno : look nm ad z1 = none) : SpV (spMet K CR CH) [.ref r, .str (ofL z1), .str (ofL z2)] H (.str "name") := fun H1 e Q q E =>
  ⟨r, hdt, nm, ad, z1, z2, rfl, hR.mono e, hg, hz1, hz2, (fun _ v H2 e2 hv => by
    obtain rfl : v = .str "name" := hv
    exact q H2 e2), fun x1 x2 l1 _ => by rw [hno] at l1; cases l1⟩
theorem Wr.pages (st : SR nm ad) (h : Wr K CR CH nm ad r hdt pgs N q H) : ∃ ps : List Pg, ps.length = nm.length ∧ ∀ (i : Nat) n x p, nm[i]? = some n → ad[i]? = some x → ps[i]? = some p → HandAt K CH H x n p ∧ HandOff CH H x n hdt ∧ GE p (q i) := by
  have key : ∀ k, k ≤ nm.length → ∃ ps : List Pg, ps.length = k ∧ ∀ (i : Nat) n x p, nm[i]? = some n → ad[i]? = some x → ps[i]? = some p → HandAt K CH H x n p ∧ HandOff CH H x n hdt ∧ GE p (q i) := by
    intro k
    induction k with
    | zero => exact fun _ => ⟨[], rfl, fun i n x p _ _ hp => by simp at hp⟩
    | succ k ih =>
      intro hk
      obtain ⟨ps, h1, h2⟩ := ih (by omega)
      obtain ⟨⟨p, h3, h4⟩, h5, _⟩ := h.hand k _ _ (List.getElem?_eq_getElem (by omega)) (List.getElem?_eq_getElem (by rw [st.la]; omega))
      refine ⟨ps ++ [p], by rw [List.length_append, h1]; rfl, fun i n x p' hi hx hp => ?_⟩
      by_cases z : i < ps.length
      · rw [List.getElem?_append_left z] at hp
        exact h2 i n x p' hi hx hp
      · have hz : i = k := by
          have := (List.getElem?_eq_some_iff.mp hp).1
          rw [List.length_append, List.length_singleton] at this
          omega
        subst hz
        rw [List.getElem?_append_right (by omega), h1, Nat.sub_self] at hp
        obtain rfl : p = p' := Option.some.inj hp
        rw [List.getElem?_eq_getElem (show i < nm.length by omega)] at hi
        rw [List.getElem?_eq_getElem (show i < ad.length by rw [st.la]; omega)] at hx
        obtain rfl := Option.some.inj hi
        obtain rfl := Option.some.inj hx
        exact ⟨h3, h5, h4⟩
  exact key _ (Nat.le_refl _)
def alikeB (q : Nat → Pg) (k : Nat) : Bool := (List.range k).all fun j => pgEq (q j) (q 0)
theorem alikeB_succ (q : Nat → Pg) (k : Nat) : alikeB q (k + 1) = (alikeB q k && pgEq (q k) (q 0)) := by
  unfold alikeB
  rw [List.range_succ, List.all_append]
  simp
theorem Wr.qnd (h : Wr K CR CH nm ad r hdt pgs N q H) {i : Nat} (hi : i < nm.length) : ((q i).map (·.1)).Nodup := by
  obtain ⟨ld, a, _, c⟩ := h.law
  exact (c i _ (List.getElem?_eq_getElem (by omega))).1.nd
theorem ev_settledW {T : Txt K mg} {E : XK} (st : SR nm ad) (wr : Wr K T.c_Room T.c_Hand nm ad r hdt pgs N q H) (h : Ev td σ H (.ref r)) : Ev (tMeth T.c_Room "settled" (spSettled K T.c_Room T.c_Hand) [] E td tNil) σ H (.bl (alikeB q nm.length)) := by
  obtain ⟨ps, hpl, hps⟩ := wr.pages st
  obtain ⟨dr, hr1⟩ := wr.room.1
  have hle := st.le
  have heq : (ps.all fun p => pgEq p (ps.headD [])) = alikeB q nm.length := by
    have hp : ∀ {i : Nat} {p : Pg}, ps[i]? = some p → GE p (q i) ∧ (p.map (·.1)).Nodup ∧ i < nm.length := fun {i p} hi => by
      have hil : i < nm.length := by rw [← hpl]; exact (List.getElem?_eq_some_iff.mp hi).1
      obtain ⟨h1, _, h3⟩ := hps i _ _ p (List.getElem?_eq_getElem hil) (List.getElem?_eq_getElem (by rw [st.la]; exact hil)) hi
      exact ⟨h3, h1.nd, hil⟩
    have hc : ∀ {i : Nat} {p : Pg}, ps[i]? = some p → pgEq p (ps.headD []) = pgEq (q i) (q 0) := fun {i p} hi => by
      obtain ⟨h1, h2, h3⟩ := hp hi
      have h0 : ps[0]? = some (ps[0]'(by omega)) := List.getElem?_eq_getElem _
      have hh : ps.headD [] = ps[0]'(by omega) := by
        cases ps with
        | nil => cases hi
        | cons p r => rfl
      obtain ⟨g1, g2, g3⟩ := hp h0
      rw [hh]
      exact pgEq_congr h2 g2 (wr.qnd h3) (wr.qnd g3) h1 g1
    unfold alikeB
    rw [Bool.eq_iff_iff, List.all_eq_true, List.all_eq_true]
    constructor
    · intro h j hj
      have hjl := List.mem_range.mp hj
      have hjp : ps[j]? = some (ps[j]'(by omega)) := List.getElem?_eq_getElem _
      rw [← hc hjp]
      exact h _ (List.mem_of_getElem? hjp)
    · intro h p hpm
      obtain ⟨i, hi, rfl⟩ := List.getElem_of_mem hpm
      rw [hc (List.getElem?_eq_getElem hi)]
      exact h i (List.mem_range.mpr (by omega))
  refine ev_x (x_meth0 h hr1 (rfs_no hdt (by decide +kernel)) (sx_of ((r, hdt), nm, ad, ps) (fun H1 e => ⟨wr.room.mono e, st.la, hpl, by show nm.length ≤ 1000; omega, fun i n y p a b c => ?_⟩) fun _ _ _ _ _ hv => ?_))
  · obtain ⟨h1, h2, _⟩ := hps i n y p a b c
    exact ⟨h1.mono e, h2.mono h1 e⟩
  · rw [← heq]
    exact hv
end

--CUT l12
/-! ### the law -/
section
variable {P : Program} {w : World} {K : PySem.W.Frag} {mg : Str → Option Value} {base : Heap}
theorem ok_law (T : Txt K mg) : FnOk P w K mg base CX0 8 T.a_law T.d_law ["_law_script"] (spLaw K) := by
  refine T.h_law.F.ok sc_law (fun vs H Q E h => ?_) (fun cdv A outer s H vs Q E hr h => ?_)
  · obtain ⟨a, ns, rfl, _⟩ := h
    rfl
  · obtain ⟨a, ns, rfl, hs, hn63, k⟩ := h
    refine ⟨_, (pss_cons (ps_set (i := 1) sc_law.nd rfl (by first | exact Or.inl rfl | exact Or.inr rfl) (pe_op op_mod (pe_call (ok_law_cell_at T) (hr.mono (by decide)) rfl T.h_law_cell_at.m T.h_law_cell_at.F.kp T.h_law_cell_at.b .nil pass0 (pa_cons (pv 0) (pa_cons pe_int pa_nil))) pe_int)) (pss_cut (ps_if (pt_cmpR op_eq (pe_op op_mod (pe_op op_fdiv (pe_call (ok_law_cell_at T) (hr.mono (by decide)) rfl T.h_law_cell_at.m T.h_law_cell_at.F.kp T.h_law_cell_at.b .nil pass0 (pa_cons (pv 0) (pa_cons pe_int pa_nil))) pe_int) pe_int) pe_int (nomark _)) (pss_one (ps_set (i := 1) sc_law.nd rfl (by first | exact Or.inl rfl | exact Or.inr rfl) (pe_op op_add pe_int (pe_op op_mod (pe_op op_fdiv (pe_call (ok_law_cell_at T) (hr.mono (by decide)) rfl T.h_law_cell_at.m T.h_law_cell_at.F.kp T.h_law_cell_at.b .nil pass0 (pa_cons (pv 0) (pa_cons pe_int pa_nil))) pe_int) pe_int)))) pss_nil) (pss_cons (ps_set (i := 2) sc_law.nd rfl (by first | exact Or.inl rfl | exact Or.inr rfl) (pe_call (ok_law_names T) (hr.mono (by decide)) rfl T.h_law_names.m T.h_law_names.F.kp T.h_law_names.b .nil pass0 (pa_cons (pv 0) (pa_cons (pv 1) pa_nil)))) (pss_cons (ps_set (i := 3) sc_law.nd rfl (by first | exact Or.inl rfl | exact Or.inr rfl) (pe_callTy call_list_of (by rfl) T.n_list (by decide +kernel) (pa_cons (pv 2) pa_nil))) (pss_cons (ps_set (i := 4) sc_law.nd rfl (by first | exact Or.inl rfl | exact Or.inr rfl) (pe_make T.mk_Room (ok_Room_init T) (hr.mono (by decide)) (by rfl) T.g_Room T.h_Room_init.b .nil passL (pa_cons (pv 3) pa_nil))) (pss_cons (ps_if (pt_cmpR (op_neD hr.units) (pv 3) (pv 2) (nomark _)) (pss_one (ps_ret pe_bl)) pss_nil) (pss_cons (ps_expr (pe_bm0 PySem.F.plainAttrs_list PySem.F.slot_list_clear PySem.F.type_list_clear mt_clear (pv 3))) (pss_cons (ps_set (i := 5) sc_law.nd rfl (by first | exact Or.inl rfl | exact Or.inr rfl) pe_dnewK) (pss_cons (ps_for PassesOwn.never rfl (pi_list (pv 2)) (pg_name (i := 6) sc_law.nd rfl (by first | exact Or.inl rfl | exact Or.inr rfl)) (pss_one (ps_dput (hu_of hr) (pv 5) (pv 6) pe_dnewK rfl))) (pss_cons (ps_for PassesOwn.never rfl (pi_range2 (by rfl) T.n_range (pa_cons pe_int (pa_cons (pe_callB call_len_seq (by rfl) T.n_len PySem.boot_len (pa_cons (pv 0) pa_nil)) pa_nil))) (pg_name (i := 7) sc_law.nd rfl (by first | exact Or.inl rfl | exact Or.inr rfl)) (pss_cut (ps_if (PW.pt (pw_and (pt_cmpR op_gt (pv 1) pe_int (nomark _)) (pw_and1 (pt_not (pt_val (pe_call (ok_law_deed T) (hr.mono (by decide)) rfl T.h_law_deed.m T.h_law_deed.F.kp T.h_law_deed.b .nil pass0 (pa_cons (pv 4) (pa_cons (pv 5) (pa_cons (pv 2) (pa_cons (pe_ix ix_list (pv 0) (pv 7) (fun _ _ => rfl)) (pa_cons (pv 7) pa_nil))))))))))) (pss_one (ps_ret pe_bl)) pss_nil) (pss_cut (ps_if (pt_cmpR op_gt (pv 1) pe_int (nomark _)) (pss_cons (ps_expr (pe_dclear (pe_meth0 (pe_meth (pv 4) T.cl_Room T.h_Room_hand.m (ok_Room_hand T) (hr.mono (by decide)) T.h_Room_hand.b .nil passL (pa_cons (pe_ix ix_list (pv 2) (pe_op op_mod (pv 7) (pv 1)) (fun _ _ => rfl)) pa_nil)) T.cl_Hand T.h_Hand_page.m (ok_Hand_page T) (hr.mono (by decide)) T.h_Hand_page.b .nil pass0))) (pss_one (ps_if (pt_not (pt_val (pe_call (ok_law_told T) (hr.mono (by decide)) rfl T.h_law_told.m T.h_law_told.F.kp T.h_law_told.b .nil pass0 (pa_cons (pv 4) (pa_cons (pv 5) (pa_cons (pe_ix ix_list (pv 2) (pe_op op_mod (pe_op op_fdiv (pe_ix ix_list (pv 0) (pv 7) (fun _ _ => rfl)) pe_int) (pv 1)) (fun _ _ => rfl)) (pa_cons (pe_ix ix_list (pv 2) (pe_op op_mod (pe_op op_fdiv (pe_ix ix_list (pv 0) (pv 7) (fun _ _ => rfl)) pe_int) (pv 1)) (fun _ _ => rfl)) pa_nil))))))) (pss_one (ps_ret pe_bl)) pss_nil))) pss_nil) (pss_cons (ps_set (i := 8) sc_law.nd rfl (by first | exact Or.inl rfl | exact Or.inr rfl) pe_bl) (pss_cons (ps_for PassesOwn.never rfl (pi_list (pv 2)) (pg_name (i := 6) sc_law.nd rfl (by first | exact Or.inl rfl | exact Or.inr rfl)) (pss_one (ps_set (i := 8) sc_law.nd rfl (by first | exact Or.inl rfl | exact Or.inr rfl) (pe_and (pv 8) (pe_one (pe_cmpR (gc_eqPK (K := K) rfl (units70 hr)) (pe_dget (hu_of hr) (pv 5) (pv 6) (fun _ _ => rfl)) (pe_dget (hu_of hr) (pv 5) (pe_ix ix_list (pv 2) pe_int (fun _ _ => rfl)) (fun _ _ => rfl)) (nomark _))))))) (pss_one (ps_if (pt_not (pt_val (pe_call (ok_law_truth T) (hr.mono (by decide)) rfl T.h_law_truth.m T.h_law_truth.F.kp T.h_law_truth.b .nil pass0 (pa_cons (pe_meth0 (pv 4) T.cl_Room T.h_Room_settled.m (ok_Room_settled T) (hr.mono (by decide)) T.h_Room_settled.b .nil pass0) (pa_cons (pv 8) pa_nil))))) (pss_one (ps_ret pe_bl)) pss_nil))))))) (pss_cons (ps_for PassesOwn.never rfl (pi_list (pv 2)) (pg_name (i := 6) sc_law.nd rfl (by first | exact Or.inl rfl | exact Or.inr rfl)) (pss_one (ps_if (PW.pt (pw_or (pt_not (pt_val (pe_call (ok_law_same T) (hr.mono (by decide)) rfl T.h_law_same.m T.h_law_same.F.kp T.h_law_same.b .nil pass0 (pa_cons (pe_meth0 (pe_meth (pv 4) T.cl_Room T.h_Room_hand.m (ok_Room_hand T) (hr.mono (by decide)) T.h_Room_hand.b .nil passL (pa_cons (pv 6) pa_nil)) T.cl_Hand T.h_Hand_page.m (ok_Hand_page T) (hr.mono (by decide)) T.h_Hand_page.b .nil pass0) (pa_cons (pe_dget (hu_of hr) (pv 5) (pv 6) (fun _ _ => rfl)) pa_nil))))) (pw_or1 (pt_cmpR op_ne (pe_fld (pe_meth (pv 4) T.cl_Room T.h_Room_hand.m (ok_Room_hand T) (hr.mono (by decide)) T.h_Room_hand.b .nil passL (pa_cons (pv 6) pa_nil)) rfl) (pv 6) (nomark _))))) (pss_one (ps_ret pe_bl)) pss_nil))) (pss_cons (ps_if (pt_not (pt_val (pe_call (ok_law_handless T) (hr.mono (by decide)) rfl T.h_law_handless.m T.h_law_handless.F.kp T.h_law_handless.b .nil pass0 (pa_cons (pv 4) (pa_cons (pe_call (ok_law_strange T) (hr.mono (by decide)) rfl T.h_law_strange.m T.h_law_strange.F.kp T.h_law_strange.b .nil pass0 (pa_cons (pv 2) (pa_cons (pe_call (ok_law_cell_at T) (hr.mono (by decide)) rfl T.h_law_cell_at.m T.h_law_cell_at.F.kp T.h_law_cell_at.b .nil pass0 (pa_cons (pv 0) (pa_cons pe_int pa_nil))) pa_nil))) pa_nil))))) (pss_one (ps_ret pe_bl)) pss_nil) (pss_cons (ps_if (PW.pt (pw_or (pt_not (pt_val (pe_call (ok_law_handless T) (hr.mono (by decide)) rfl T.h_law_handless.m T.h_law_handless.F.kp T.h_law_handless.b .nil pass0 (pa_cons (pv 4) (pa_cons pe_str pa_nil))))) (pw_or1 (pt_cmpR op_ne (pe_call (ok_law_met T) (hr.mono (by decide)) rfl T.h_law_met.m T.h_law_met.F.kp T.h_law_met.b .nil pass0 (pa_cons (pv 4) (pa_cons pe_str (pa_cons pe_str pa_nil)))) pe_str (nomark _))))) (pss_one (ps_ret pe_bl)) pss_nil) (pss_one (ps_ret (pe_call (ok_law_roomless T) (hr.mono (by decide)) rfl T.h_law_roomless.m T.h_law_roomless.F.kp T.h_law_roomless.b .nil pass0 (pa_cons (pv 2) (pa_cons (pe_call (ok_law_cell_at T) (hr.mono (by decide)) rfl T.h_law_cell_at.m T.h_law_cell_at.F.kp T.h_law_cell_at.b .nil pass0 (pa_cons (pv 0) (pa_cons pe_int pa_nil))) pa_nil)))))))))))))))))), ?_⟩
    have hcell : ∀ {j : Int} {H' : Hp} {σ : L2.St} {tj : TE}, Ex H H' → σ[0]? = some (some (.ref a)) → Ev tj σ H' (.int j) → 0 ≤ j → Ev (tCall (spCell K) [] E0 (tCons (tVar 0) (tCons tj tNil))) σ H' (.int (cellAt ns j)) := fun e hσ hj h0 => ev_call (ea_cons (ev_var hσ) (ea_cons hj ea_nil)) (sv_cell (ex_l e hs) h0)
    have g1 := Int.emod_nonneg (cellAt ns 0) (by decide : (5 : Int) ≠ 0)
    have g2 := Int.emod_lt_of_pos (cellAt ns 0) (by decide : (0 : Int) < 5)
    have g3 := Int.emod_nonneg (cellAt ns 0 / 40) (by decide : (13 : Int) ≠ 0)
    have g4 := Int.emod_lt_of_pos (cellAt ns 0 / 40) (by decide : (0 : Int) < 13)
    refine q_asg (v := .int (cellAt ns 0 % 5)) (ev_op (hcell (Ex.refl _) rfl ev_c (by decide)) ev_c (rv_I (by show (0 : Int) < _; decide))) fun H1 e1 => ?_
    refine q_cut (M := fun σ' H' => ∃ m : Int, σ' = [some (.ref a), some (.int m), none, none, none, none, none, none, none] ∧ Ex H H' ∧ 0 ≤ m ∧ m ≤ 24) ?_ ?_
    · refine s_when (b := decide (V.int (cellAt ns 0 / 5 % 8) = V.int 1)) (et_test (ev_op (ev_op (ev_op (hcell e1 rfl ev_c (by decide)) ev_c (rv_I ⟨by decide, by decide⟩)) ev_c (rv_I (by show (0 : Int) < _; decide))) ev_c (rv_eq rfl))) (fun hb H2 e2 => ?_) (fun hb H2 e2 => ?_)
      · exact s_asg (v := .int (12 + cellAt ns 0 / 40 % 13)) (ev_op ev_c (ev_op (ev_op (hcell (e1.trans e2) rfl ev_c (by decide)) ev_c (rv_I ⟨by decide, by decide⟩)) ev_c (rv_I (by show (0 : Int) < _; decide))) rv_I0) fun H3 e3 => ⟨_, rfl, (e1.trans e2).trans e3, by omega, by omega⟩
      · exact ⟨_, rfl, e1.trans e2, by omega, by omega⟩
    rintro σ' H2 ⟨m, rfl, e2, hm0, hm24⟩
    refine qx_asg (x_lawNames (K := K) (n := m) (ev_var rfl) (ev_var rfl) (ex_l e2 hs) ⟨by omega, by omega⟩) ?_
    rintro v H3 e3 ⟨na, rfl, hna0, hna⟩
    have hnl : (nmL ns m).length = m.toNat := nmL_len
    have hnn : (nmL ns m).Nodup := nmL_nd (by omega)
    have hnx : NmX (nmL ns m) := nmL_x hm24
    generalize nmL ns m = nm at hna hnl hnn hnx
    have hnm : (nm.length : Int) = m := by omega
    have hle : nm.length ≤ 24 := by omega
    have hng : ∀ n ∈ nm, GoodN n := fun n hn => (hnx.1 n hn).1
    have hnk : ∀ n ∈ nm, NmOk n := fun n hn => nm_of (z := ofL n) (nameOk_good (hng n hn))
    have hsl : (nmS nm).length = nm.length := List.length_map ..
    have hsi : ∀ {i : Nat} {v : V}, (nmS nm)[i]? = some v → ∃ n, nm[i]? = some n ∧ v = .str (ofL n) ∧ i < nm.length := fun {i v} hv => by
      unfold nmS at hv
      rw [List.getElem?_map] at hv
      cases c : nm[i]? with
      | none =>
        rw [c] at hv
        cases hv
      | some n =>
        rw [c] at hv
        exact ⟨n, rfl, (Option.some.inj hv).symm, (List.getElem?_eq_some_iff.mp c).1⟩
    refine qx_asg (x_listL (K := K) (ev_var rfl) (sq_of hna)) ?_
    rintro v H4 e4 ⟨l, rfl, hl0, hl⟩
    refine qx_asg (x_makeRoom (T := T) (ev_var rfl) hl hle hnn hng) ?_
    rintro v H5 e5 ⟨r, hdt, ad, rfl, hr0, hR, hhd0, hal, han, hrad, hnew, hhand⟩
    refine q_when (b := false) (et_test (ev_neNames (K := K) (ns := nm) hnk (x_varL rfl (sq_of (e5 _ _ hl))) (x_varL rfl (sq_of (e5 _ _ (e4 _ _ hna)))) (fun _ _ h => h))) (fun hb _ _ => by cases hb) (fun _ H6 e6 => ?_)
    have hl6 := e6 _ _ (e5 _ _ hl)
    have hnl2 : na ≠ l := fun z => by rw [z, hl0] at hna; cases hna
    have e06 : Ex H H6 := (((e2.trans e3).trans e4).trans e5).trans e6
    have hl00 : H l = none := fresh_back (e2.trans e3) hl0
    refine q_lclear (ev_var rfl) hl6 fun H7 e7 => ?_
    have e67 := e6.trans e7
    have hl7 := e67 _ _ (e5 _ _ hl)
    have eB : Ex H (upd H7 l (.lst [])) := Ex.mut (e06.trans e7) hl00
    have hnaB : upd H7 l (.lst []) na = some (.lst (nmS nm)) := by rw [upd_ne hnl2]; exact e67 _ _ (e5 _ _ (e4 _ _ hna))
    have hRB : RoomAt T.c_Room (upd H7 l (.lst [])) r hdt nm ad := (hR.mono e67).updL hl7
    have hhB : ∀ (i : Nat) n x, nm[i]? = some n → ad[i]? = some x → HandAt K T.c_Hand (upd H7 l (.lst [])) x n [] ∧ HandOff T.c_Hand (upd H7 l (.lst [])) x n hdt := fun i n x hi hx => by
      obtain ⟨h1, h2⟩ := hhand i n x hi hx
      have h17 := h1.mono e67
      obtain ⟨dx, pd, hxi, _⟩ := id h17
      exact ⟨h17.updL hl7, (h2.mono h1 e67).to hxi (by rw [upd_ne (fun z => by rw [z, hl7] at hxi; cases hxi)]; exact hxi)⟩
    generalize upd H7 l (.lst []) = HB at eB hnaB hRB hhB
    refine qx_asg x_dnew ?_
    rintro v H8 e8 ⟨pgs, rfl, hpg0, hpg⟩
    refine q_forLn (a := na) (xs := nmS nm) (ev_var rfl) (sq_of (e8 _ _ hnaB)) (fun i σ' H' => ∃ s6 ld, σ' = [some (.ref a), some (.int m), some (.ref na), some (.ref l), some (.ref r), some (.ref pgs), s6, none, none] ∧ Ex HB H' ∧ H' pgs = some (.dK (roomK (nm.take i) ld)) ∧ ld.length = i ∧ ∀ d ∈ ld, H' d = some (.dK []) ∧ d ≠ pgs)
      (fun H9 e9 => ⟨none, [], rfl, e8.trans e9, e9 _ _ hpg, rfl, fun d hd => by cases hd⟩) (fun i σ' H' _ ⟨_, _, _, z, _⟩ => sq_of (z _ _ hnaB)) ?_ ?_
    · rintro i v σ' H9 hv ⟨s6, ld, rfl, e9, hpg9, hld, hall⟩
      obtain ⟨n, hni, rfl, hin⟩ := hsi hv
      have hnotin : n ∉ nm.take i := fun hm => by
        obtain ⟨j, hj⟩ := List.getElem_of_mem hm
        obtain ⟨hj1, hj2⟩ := hj
        rw [List.length_take] at hj1
        rw [List.getElem_take] at hj2
        have := nm_inj hnn (List.getElem?_eq_getElem (show j < nm.length by omega)) (by rw [hni, hj2])
        omega
      have hlk : valV (roomK (nm.take i) ld) (.inr (ofL n)) = none := by rw [room_val, look_none hnotin]; rfl
      have hlt : (nm.take i).length = i := by rw [List.length_take]; omega
      refine s_dputX (k := .inr (ofL n)) (P := Nw H9 (.dK [])) x_dnew (ev_var rfl) (ev_var rfl) hpg9 (by rw [roomK_len (by rw [hld, hlt]), hlt]; omega) (fun v Ha Hb e ⟨d, h1, h2, h3⟩ => ⟨d, h1, h2, e _ _ h3⟩) ?_
      rintro v H10 e10 ⟨d, rfl, hd0, hd⟩
      have hdp : d ≠ pgs := fun z => by rw [z, hpg9] at hd0; cases hd0
      refine ⟨_, ld ++ [d], rfl, Ex.mut (e9.trans e10) hpg0, ?_, by rw [List.length_append, hld]; rfl, fun y hy => ?_⟩
      · have htk : nm.take (i + 1) = nm.take i ++ [n] := by rw [List.take_succ, hni]; rfl
        rw [upd_same, put_new hlk, htk, roomK_snoc (by rw [hld, hlt])]
      · rcases List.mem_append.mp hy with hy | hy
        · obtain ⟨h1, h2⟩ := hall y hy
          exact ⟨by rw [upd_ne h2]; exact e10 _ _ h1, h2⟩
        · rw [List.mem_singleton.mp hy]
          exact ⟨by rw [upd_ne hdp]; exact hd, hdp⟩
    · rintro σ' H9 ⟨s6, ld, rfl, e9, hpg9, hld, hall⟩
      rw [hsl, List.take_length] at hpg9
      rw [hsl] at hld
      have st : SR nm ad := ⟨hnn, hnx, hle, hal, han⟩
      have hpad : ∀ x ∈ ad, x ≠ pgs := fun x hx z => by
        obtain ⟨j, hj1, hj2⟩ := List.getElem_of_mem hx
        obtain ⟨⟨dx, pd, h1, _⟩, _⟩ := hhB j _ x (List.getElem?_eq_getElem (by omega)) (by rw [List.getElem?_eq_getElem hj1, hj2])
        rw [z, hpg0] at h1
        cases h1
      have wr : Wr K T.c_Room T.c_Hand nm ad r hdt pgs 0 (fun _ => []) H9 := by
        refine ⟨hRB.mono e9, fun i n x hi hx => ?_, ⟨ld, hld, hpg9, fun i d hd => ?_⟩, (fun i _ e he => by cases he), fun z => ?_, by decide⟩
        · obtain ⟨h1, h2⟩ := hhB i n x hi hx
          have h19 := h1.mono e9
          refine ⟨⟨[], h19, fun _ => rfl⟩, h2.mono h1 e9, fun dx pd h z => ?_⟩
          obtain ⟨dx', pd', h3, ⟨kv, h4, _⟩, _⟩ := h1
          rw [e9 _ _ h3] at h
          injection h with h
          injection h with _ _ h
          obtain rfl := hfs_inj h
          rw [z, hpg0] at h4
          cases h4
        · obtain ⟨h1, h2⟩ := hall d (List.mem_of_getElem? hd)
          exact ⟨PgAt.nil h1, h2⟩
        · have := hRB.2
          rw [z, hpg0] at this
          cases this
      have hrp : r ≠ pgs := fun z => by
        obtain ⟨dr, h1⟩ := hRB.1
        rw [z, hpg0] at h1
        cases h1
      have hbad : ∀ b o, H b = some o → b ∉ ad ∧ b ≠ pgs := fun b o hb => by
        refine ⟨fun z => ?_, fun z => ?_⟩
        · have := hnew b z
          rw [e4 _ _ (e3 _ _ (e2 _ _ hb))] at this
          cases this
        · rw [z] at hb
          rw [eB _ _ hb] at hpg0
          cases hpg0
      have hnaad : na ∉ ad := fun z => by
        have := hnew na z
        rw [e4 _ _ hna] at this
        cases this
      have hnapg : na ≠ pgs := fun z => by rw [z, hpg0] at hnaB; cases hnaB
      have hna9 := e9 _ _ hnaB
      have e09 := eB.trans e9
      clear hall hld hpg9 hhand hhB hR hRB hl6 hl7 hl0 hl00 hl
      have hlenI : (ns.map V.int).length = ns.length := List.length_map ..
      refine q_forR2 (lo := 3) (n := (ns.length : Int)) (ea_cons ev_c (ea_cons (ev_is (ev_cb (ea_cons (ev_var rfl) ea_nil) (rc_lenL (ex_l e09 hs))) (by rw [hlenI])) ea_nil)) ⟨by decide, by decide, by omega, by omega⟩ (fun i σ' H' => ∃ s6 s7 s8 N q, σ' = [some (.ref a), some (.int m), some (.ref na), some (.ref l), some (.ref r), some (.ref pgs), s6, s7, s8] ∧ Ex H H' ∧ H' na = some (.lst (nmS nm)) ∧ Wr K T.c_Room T.c_Hand nm ad r hdt pgs N q H' ∧ N ≤ i)
        (fun H10 e10 => ⟨s6, none, none, 0, _, rfl, e09.trans e10, e10 _ _ hna9, wr.mono e10, Nat.le_refl _⟩) ?_ ?_
      · clear wr hna9 e09
        rintro i σ' H10 hi ⟨s6, s7, s8, N, q, rfl, e10, hna10, wr, hN⟩
        have hki : ((3 : Int) + (i : Int)) = ((3 + i : Nat) : Int) := by omega
        obtain ⟨c, hc⟩ : ∃ c : Int, atI (ns.map V.int) ((3 : Int) + (i : Int)) = some (.int c) := ⟨ns[3 + i]'(by omega), by
          rw [hki]
          refine atI_nat ?_
          rw [List.getElem?_map, List.getElem?_eq_getElem (by omega)]
          rfl⟩
        refine q_cut (M := fun σ' H' => ∃ N q, σ' = [some (.ref a), some (.int m), some (.ref na), some (.ref l), some (.ref r), some (.ref pgs), s6, some (.int ((3 : Int) + (i : Int))), s8] ∧ Ex H H' ∧ H' na = some (.lst (nmS nm)) ∧ Wr K T.c_Room T.c_Hand nm ad r hdt pgs N q H' ∧ N ≤ i + 1) ?_ ?_
        · by_cases hp : m > 0
          · refine (et_test (ev_op (ev_var rfl) ev_c rv_I0) : EvT _ _ H10 (decide (m > 0))) H10 (Ex.refl _) _ fun H11 e11 => ?_
            rw [decide_eq_true hp, if_pos rfl]
            refine m_call5E (ev_var rfl) (ev_var rfl) (ev_var rfl) (ev_op (ev_var rfl) (ev_var rfl) (rv_ixL (ex_l (e10.trans e11) hs) hc)) (ev_var rfl) fun H12 e12 => ?_
            have e1012 := e11.trans e12
            refine ⟨r, hdt, pgs, na, c, _, nm, ad, N, q, rfl, st, by omega, ⟨hrad, hrp⟩, wr.mono e1012, by omega, e1012 _ _ hna10, fun H13 q' fr wr' => ?_⟩
            refine ⟨true, rfl, ?_⟩
            exact ⟨N + 1, q', rfl, fun b o hb => fr _ _ (e1012 _ _ (e10 _ _ hb)) (hbad b o hb).1 (hbad b o hb).2, fr _ _ (e1012 _ _ hna10) hnaad hnapg, wr', by omega⟩
          · refine (et_test (ev_op (ev_var rfl) ev_c rv_I0) : EvT _ _ H10 (decide (m > 0))) H10 (Ex.refl _) _ fun H11 e11 => ?_
            rw [decide_eq_false hp, if_neg Bool.false_ne_true]
            exact ⟨N, q, rfl, e10.trans e11, e11 _ _ hna10, wr.mono e11, by omega⟩
        clear wr hna10 e10 hN
        rintro σ' H11 ⟨N, q, rfl, e11, hna11, wr, hN⟩
        refine q_cut (M := fun σ' H' => σ' = [some (.ref a), some (.int m), some (.ref na), some (.ref l), some (.ref r), some (.ref pgs), s6, some (.int ((3 : Int) + (i : Int))), s8] ∧ Ex H11 H') ?_ ?_
        · refine s_when (b := decide (m > 0)) (et_test (ev_op (ev_var rfl) ev_c rv_I0)) (fun hp H12 e12 => ?_) (fun hp H12 e12 => ⟨rfl, e12⟩)
          have hp0 : m > 0 := of_decide_eq_true hp
          have hix : ∀ z : Int, ∃ (j : Nat) (n : Nm), z % m = (j : Int) ∧ nm[j]? = some n ∧ atI (nmS nm) (z % m) = some (.str (ofL n)) := fun z => by
            have h1 := Int.emod_nonneg z (by omega : m ≠ 0)
            have h2 := Int.emod_lt_of_pos z hp0
            obtain ⟨j, hj⟩ : ∃ j : Nat, z % m = (j : Int) := ⟨_, (Int.toNat_of_nonneg h1).symm⟩
            have hjl : j < nm.length := by omega
            refine ⟨j, nm[j], hj, List.getElem?_eq_getElem hjl, ?_⟩
            rw [hj]
            exact atI_nat (by unfold nmS; rw [List.getElem?_map, List.getElem?_eq_getElem hjl]; rfl)
          obtain ⟨j0, n0, hj0, hn0, hat0⟩ := hix ((3 : Int) + (i : Int))
          obtain ⟨j1, n1, hj1, hn1, hat1⟩ := hix (c / 6)
          obtain ⟨j2, n2, hj2, hn2, hat2⟩ := hix (c / 144)
          have wr12 := wr.mono e12
          have hna12 := e12 _ _ hna11
          have hx0 : ad[j0]? = some (ad[j0]'(by have := (List.getElem?_eq_some_iff.mp hn0).1; omega)) := List.getElem?_eq_getElem _
          obtain ⟨⟨p0, hp0, _⟩, _⟩ := wr12.hand j0 n0 _ hn0 hx0
          refine q_clrX (x_handPage (T := T) (ev_rhand (K := K) (ev_var rfl) (ev_op (ev_var rfl) (ev_op (ev_var rfl) (ev_var rfl) (rv_I (by show (0 : Int) < _; omega))) (rv_ixL (sq_of hna12) hat0)) wr12.room st.gd (look_at st.nd hn0 hx0)) hp0) fun H13 e13 => ?_
          have e1113 := e12.trans e13
          have hna13 := e13 _ _ hna12
          refine s_when (b := !true) (et_not (et_B (ev_call (ea_cons (ev_var rfl) (ea_cons (ev_var rfl) (ea_cons (ev_op (ev_var rfl) (ev_op (ev_op (ev_op (ev_var rfl) (ev_var rfl) (rv_ixL (ex_l (e11.trans e1113) hs) hc)) ev_c (rv_I ⟨by decide, by decide⟩)) (ev_var rfl) (rv_I (by show (0 : Int) < _; omega))) (rv_ixL (sq_of hna13) hat1)) (ea_cons (ev_op (ev_var rfl) (ev_op (ev_op (ev_op (ev_var rfl) (ev_var rfl) (rv_ixL (ex_l (e11.trans e1113) hs) hc)) ev_c (rv_I ⟨by decide, by decide⟩)) (ev_var rfl) (rv_I (by show (0 : Int) < _; omega))) (rv_ixL (sq_of hna13) hat2)) ea_nil)))) (sv_lTold st (wr.mono e1113) hn1 hn2)))) (fun hb _ _ => by cases hb) (fun _ H14 e14 => ⟨rfl, e1113.trans e14⟩)
        rintro σ' H12 ⟨rfl, e12⟩
        refine q_asg (v := .bl true) ev_c fun H13 e13 => ?_
        have e1113 := e12.trans e13
        have wr13 := wr.mono e1113
        have hna13 := e1113 _ _ hna11
        obtain ⟨ld, hld, hpg, hlaw⟩ := wr13.law
        refine q_forLn (a := na) (xs := nmS nm) (ev_var rfl) (sq_of hna13) (fun j σ' H' => ∃ s6, σ' = [some (.ref a), some (.int m), some (.ref na), some (.ref l), some (.ref r), some (.ref pgs), s6, some (.int ((3 : Int) + (i : Int))), some (.bl (alikeB q j))] ∧ Ex H13 H')
          (fun H14 e14 => ⟨s6, rfl, e14⟩) (fun j σ' H' _ ⟨_, _, z⟩ => sq_of (z _ _ hna13)) ?_ ?_
        · rintro j v σ' H14 hv ⟨s6, rfl, e14⟩
          obtain ⟨n, hnj, rfl, hjl⟩ := hsi hv
          have hn0 : nm[0]? = some (nm[0]'(by omega)) := List.getElem?_eq_getElem _
          generalize nm[0]'(by omega) = n0 at hn0
          have hdj : ld[j]? = some (ld[j]'(by omega)) := List.getElem?_eq_getElem _
          have hd0 : ld[0]? = some (ld[0]'(by omega)) := List.getElem?_eq_getElem _
          generalize ld[j]'(by omega) = dj at hdj
          generalize ld[0]'(by omega) = d0 at hd0
          have hvj : valV (roomK nm ld) (.inr (ofL n)) = some (.ref dj) := by rw [room_val, look_at st.nd hnj hdj]; rfl
          have hv0 : valV (roomK nm ld) (.inr (ofL n0)) = some (.ref d0) := by rw [room_val, look_at st.nd hn0 hd0]; rfl
          have hat0 : atI (nmS nm) 0 = some (.str (ofL n0)) := atI_nat (j := 0) (by unfold nmS; rw [List.getElem?_map, hn0]; rfl)
          have hpg14 := e14 _ _ hpg
          refine s_asg (v := .bl (alikeB q (j + 1))) (ev_is (ev_andV (a := alikeB q j) (b := pgEq (q j) (q 0)) (ev_var rfl) fun _ => ev_op (ev_dgetN (ev_var rfl) (ev_var rfl) hpg14 hvj) (ev_dgetN (ev_var rfl) (ev_op (ev_var rfl) ev_c (rv_ixL (sq_of (e14 _ _ hna13)) hat0)) hpg14 hv0) (rv_pgEq ((hlaw j dj hdj).1.mono e14) ((hlaw 0 d0 hd0).1.mono e14))) (by rw [alikeB_succ])) fun H15 e15 => ⟨_, rfl, e14.trans e15⟩
        · rintro σ' H14 ⟨s6, rfl, e14⟩
          rw [hsl]
          refine s_when (b := !decide (V.bl (alikeB q nm.length) = V.bl (alikeB q nm.length))) (et_not (et_B (ev_call (ea_cons (ev_settledW (T := T) st (wr13.mono e14) (ev_var rfl)) (ea_cons (ev_var rfl) ea_nil)) sv_truth))) (fun hb _ _ => by simp at hb) (fun _ H15 e15 => ?_)
          have eA := (e1113.trans e14).trans e15
          exact ⟨_, _, _, N, q, rfl, e11.trans eA, eA _ _ hna11, wr.mono eA, hN⟩
      · clear wr hna9 e09
        rintro σ' H10 ⟨s6, s7, s8, N, q, rfl, e10, hna10, wr, hN⟩
        obtain ⟨ld, hld, hpg, hlaw⟩ := wr.law
        refine q_forLn (a := na) (xs := nmS nm) (ev_var rfl) (sq_of hna10) (fun j σ' H' => ∃ s6, σ' = [some (.ref a), some (.int m), some (.ref na), some (.ref l), some (.ref r), some (.ref pgs), s6, s7, s8] ∧ Ex H10 H')
          (fun H14 e14 => ⟨s6, rfl, e14⟩) (fun j σ' H' _ ⟨_, _, z⟩ => sq_of (z _ _ hna10)) ?_ ?_
        · rintro j v σ' H11 hv ⟨s6, rfl, e11⟩
          obtain ⟨n, hnj, rfl, hjl⟩ := hsi hv
          have hxj : ad[j]? = some (ad[j]'(by omega)) := List.getElem?_eq_getElem _
          generalize ad[j]'(by omega) = x at hxj
          have hdj : ld[j]? = some (ld[j]'(by omega)) := List.getElem?_eq_getElem _
          generalize ld[j]'(by omega) = dj at hdj
          have hvj : valV (roomK nm ld) (.inr (ofL n)) = some (.ref dj) := by rw [room_val, look_at st.nd hnj hdj]; rfl
          have wr11 := wr.mono e11
          obtain ⟨⟨p, hp, hge⟩, _⟩ := wr11.hand j n x hnj hxj
          obtain ⟨dx, pd, hxi, _, _, hris, _⟩ := id hp
          have hqj := (hlaw j dj hdj).1.mono e11
          have hpg11 := e11 _ _ hpg
          have hlk := look_at st.nd hnj hxj
          refine s_when (b := !true || !decide (V.str (ofL n) = V.str (ofL n))) (et_or (et_not (et_B (x_sameXX (K := K) (x_handPage (T := T) (ev_rhand (K := K) (ev_var rfl) (ev_var rfl) wr11.room st.gd hlk) hp) (x_ev (v := .ref dj) (ev_dgetN (ev_var rfl) (ev_var rfl) hpg11 hvj)) ?_))) fun _ => et_test (ev_op (ev_fld (ev_rhand (K := K) (ev_var rfl) (ev_var rfl) wr11.room st.gd hlk) hxi T.cl_Hand T.na_Hand_name (hfs_name n pd)) (ev_var rfl) (rv_ne rfl))) (fun hb _ _ => by simp at hb) (fun _ H12 e12 => ⟨_, rfl, e11.trans e12⟩)
          rintro v u H12 e12 ⟨d4, rfl, _, hd4⟩ (hu : u = .ref dj)
          exact ⟨d4, p, dj, q j, rfl, hu, hd4, (hqj.mono e12).rd, perm_get hp.nd hqj.nd hge, hris⟩
        · rintro σ' H11 ⟨s6, rfl, e11⟩
          have enob : V.str (Str.ofString "nobodyx") = .str (ofL [110, 111, 98, 111, 100, 121, 120]) := congrArg V.str (by decide +kernel)
          have ezz : V.str (Str.ofString "zzzzzzzz") = .str (ofL [122, 122, 122, 122, 122, 122, 122, 122]) := congrArg V.str (by decide +kernel)
          have hnob : ([110, 111, 98, 111, 100, 121, 120] : Nm) ∉ nm := fun hm => absurd (hnx.1 _ hm).2.2 (by decide)
          have wr11 := wr.mono e11
          have hna11 := e11 _ _ hna10
          have e011 := e10.trans e11
          refine q_when (b := !true) (et_not (et_B (ev_x (x_call2 (P2 := fun v _ => ∃ z : Nm, v = .str (ofL z) ∧ z.length ≤ 20 ∧ z ∉ nm) (x_ev (v := .ref r) (ev_var rfl)) (x_call2 (x_ev (v := .ref na) (ev_var rfl)) (x_ev (v := .int (cellAt ns 1)) (hcell e011 rfl ev_c (by decide))) (by
            rintro _ _ H12 e12 rfl rfl
            exact sx_of (na, cellAt ns 1, nm) (fun H13 e13 => ⟨sq_of (e13 _ _ (e12 _ _ hna11)), hle, hnx⟩) fun _ _ _ _ _ h => h)) (by
            rintro _ _ H12 e12 rfl ⟨z, rfl, hz, hzn⟩
            exact sx_of ((r, hdt, z), nm, ad) (fun H13 e13 => ⟨(wr11.room.mono e12).mono e13, st.gd, by show z.length ≤ 3000; omega, look_none hzn⟩) fun _ _ _ _ _ h => h))))) (fun hb _ _ => by cases hb) (fun _ H12 e12 => ?_)
          have wr12 := wr11.mono e12
          refine q_when (b := !true || !decide (V.str (Str.ofString "name") = V.str (Str.ofString "name"))) (et_or (et_not (et_B (ev_call (ea_cons (ev_var rfl) (ea_cons (ev_is ev_c enob) ea_nil)) (sv_handless wr12.room st.gd (by decide) (look_none hnob))))) fun _ => et_test (ev_op (ev_call (ea_cons (ev_var rfl) (ea_cons (ev_is ev_c enob) (ea_cons (ev_is ev_c ezz) ea_nil))) (sv_metNone wr12.room st.gd (by decide) (by decide) (look_none hnob))) ev_c (rv_ne rfl))) (fun hb _ _ => by simp at hb) (fun _ H13 e13 => ?_)
          have e1113 := e12.trans e13
          exact s_ret (v := .bl true) (ev_call (ea_cons (ev_var rfl) (ea_cons (hcell (e011.trans e1113) rfl ev_c (by decide)) ea_nil)) (sv_roomless (sq_of (e1113 _ _ hna11)) hle hnn hng)) fun H14 e14 => k H14
end

--CUT fin
theorem all_mk {l : PySem.W.OpenLaw} {w : World} {K : PySem.W.Frag} {h : Heap} {mg : Str → Option Value} {fa : Addr} (X : K.In h) (G : h.Ns mainGlobals mg) (hfa : mg "law" = some (.ref fa))
    {c_GossipError : Addr}
    {c_NoName : Addr}
    {c_NoAmount : Addr}
    {c_NoPage : Addr}
    {c_Forged : Addr}
    {c_NoNote : Addr}
    {c_Hand : Addr}
    {c_Room : Addr}
    {f0 : Addr} {od0 an0 : Option Addr} {sl0 : Array (Option Value)} {oc0 kV0 dc0 pm0 cd0 ct0 : Value}
    {f1 : Addr} {od1 an1 : Option Addr} {sl1 : Array (Option Value)} {oc1 kV1 dc1 pm1 cd1 ct1 : Value}
    {f2 : Addr} {od2 an2 : Option Addr} {sl2 : Array (Option Value)} {oc2 kV2 dc2 pm2 cd2 ct2 : Value}
    {f3 : Addr} {od3 an3 : Option Addr} {sl3 : Array (Option Value)} {oc3 kV3 dc3 pm3 cd3 ct3 : Value}
    {f4 : Addr} {od4 an4 : Option Addr} {sl4 : Array (Option Value)} {oc4 kV4 dc4 pm4 cd4 ct4 : Value}
    {f5 : Addr} {od5 an5 : Option Addr} {sl5 : Array (Option Value)} {oc5 kV5 dc5 pm5 cd5 ct5 : Value}
    {f6 : Addr} {od6 an6 : Option Addr} {sl6 : Array (Option Value)} {oc6 kV6 dc6 pm6 cd6 ct6 : Value}
    {f7 : Addr} {od7 an7 : Option Addr} {sl7 : Array (Option Value)} {oc7 kV7 dc7 pm7 cd7 ct7 : Value}
    {f8 : Addr} {od8 an8 : Option Addr} {sl8 : Array (Option Value)} {oc8 kV8 dc8 pm8 cd8 ct8 : Value}
    {f9 : Addr} {od9 an9 : Option Addr} {sl9 : Array (Option Value)} {oc9 kV9 dc9 pm9 cd9 ct9 : Value}
    {f10 : Addr} {od10 an10 : Option Addr} {sl10 : Array (Option Value)} {oc10 kV10 dc10 pm10 cd10 ct10 : Value}
    {f11 : Addr} {od11 an11 : Option Addr} {sl11 : Array (Option Value)} {oc11 kV11 dc11 pm11 cd11 ct11 : Value}
    {f12 : Addr} {od12 an12 : Option Addr} {sl12 : Array (Option Value)} {oc12 kV12 dc12 pm12 cd12 ct12 : Value}
    {f13 : Addr} {od13 an13 : Option Addr} {sl13 : Array (Option Value)} {oc13 kV13 dc13 pm13 cd13 ct13 : Value}
    {f14 : Addr} {od14 an14 : Option Addr} {sl14 : Array (Option Value)} {oc14 kV14 dc14 pm14 cd14 ct14 : Value}
    {f15 : Addr} {od15 an15 : Option Addr} {sl15 : Array (Option Value)} {oc15 kV15 dc15 pm15 cd15 ct15 : Value}
    {f16 : Addr} {od16 an16 : Option Addr} {sl16 : Array (Option Value)} {oc16 kV16 dc16 pm16 cd16 ct16 : Value}
    {f17 : Addr} {od17 an17 : Option Addr} {sl17 : Array (Option Value)} {oc17 kV17 dc17 pm17 cd17 ct17 : Value}
    {f18 : Addr} {od18 an18 : Option Addr} {sl18 : Array (Option Value)} {oc18 kV18 dc18 pm18 cd18 ct18 : Value}
    {f19 : Addr} {od19 an19 : Option Addr} {sl19 : Array (Option Value)} {oc19 kV19 dc19 pm19 cd19 ct19 : Value}
    {f20 : Addr} {od20 an20 : Option Addr} {sl20 : Array (Option Value)} {oc20 kV20 dc20 pm20 cd20 ct20 : Value}
    {f21 : Addr} {od21 an21 : Option Addr} {sl21 : Array (Option Value)} {oc21 kV21 dc21 pm21 cd21 ct21 : Value}
    {f22 : Addr} {od22 an22 : Option Addr} {sl22 : Array (Option Value)} {oc22 kV22 dc22 pm22 cd22 ct22 : Value}
    {f23 : Addr} {od23 an23 : Option Addr} {sl23 : Array (Option Value)} {oc23 kV23 dc23 pm23 cd23 ct23 : Value}
    {f24 : Addr} {od24 an24 : Option Addr} {sl24 : Array (Option Value)} {oc24 kV24 dc24 pm24 cd24 ct24 : Value}
    {f25 : Addr} {od25 an25 : Option Addr} {sl25 : Array (Option Value)} {oc25 kV25 dc25 pm25 cd25 ct25 : Value}
    {f26 : Addr} {od26 an26 : Option Addr} {sl26 : Array (Option Value)} {oc26 kV26 dc26 pm26 cd26 ct26 : Value}
    {f27 : Addr} {od27 an27 : Option Addr} {sl27 : Array (Option Value)} {oc27 kV27 dc27 pm27 cd27 ct27 : Value}
    {f28 : Addr} {od28 an28 : Option Addr} {sl28 : Array (Option Value)} {oc28 kV28 dc28 pm28 cd28 ct28 : Value}
    {f29 : Addr} {od29 an29 : Option Addr} {sl29 : Array (Option Value)} {oc29 kV29 dc29 pm29 cd29 ct29 : Value}
    {f30 : Addr} {od30 an30 : Option Addr} {sl30 : Array (Option Value)} {oc30 kV30 dc30 pm30 cd30 ct30 : Value}
    {f31 : Addr} {od31 an31 : Option Addr} {sl31 : Array (Option Value)} {oc31 kV31 dc31 pm31 cd31 ct31 : Value}
    {f32 : Addr} {od32 an32 : Option Addr} {sl32 : Array (Option Value)} {oc32 kV32 dc32 pm32 cd32 ct32 : Value}
    {f33 : Addr} {od33 an33 : Option Addr} {sl33 : Array (Option Value)} {oc33 kV33 dc33 pm33 cd33 ct33 : Value}
    {f34 : Addr} {od34 an34 : Option Addr} {sl34 : Array (Option Value)} {oc34 kV34 dc34 pm34 cd34 ct34 : Value}
    {f35 : Addr} {od35 an35 : Option Addr} {sl35 : Array (Option Value)} {oc35 kV35 dc35 pm35 cd35 ct35 : Value}
    {f36 : Addr} {od36 an36 : Option Addr} {sl36 : Array (Option Value)} {oc36 kV36 dc36 pm36 cd36 ct36 : Value}
    {f37 : Addr} {od37 an37 : Option Addr} {sl37 : Array (Option Value)} {oc37 kV37 dc37 pm37 cd37 ct37 : Value}
    {f38 : Addr} {od38 an38 : Option Addr} {sl38 : Array (Option Value)} {oc38 kV38 dc38 pm38 cd38 ct38 : Value}
    {f39 : Addr} {od39 an39 : Option Addr} {sl39 : Array (Option Value)} {oc39 kV39 dc39 pm39 cd39 ct39 : Value}
    {f40 : Addr} {od40 an40 : Option Addr} {sl40 : Array (Option Value)} {oc40 kV40 dc40 pm40 cd40 ct40 : Value}
    {f41 : Addr} {od41 an41 : Option Addr} {sl41 : Array (Option Value)} {oc41 kV41 dc41 pm41 cd41 ct41 : Value}
    {f42 : Addr} {od42 an42 : Option Addr} {sl42 : Array (Option Value)} {oc42 kV42 dc42 pm42 cd42 ct42 : Value}
    {f43 : Addr} {od43 an43 : Option Addr} {sl43 : Array (Option Value)} {oc43 kV43 dc43 pm43 cd43 ct43 : Value}
    {f44 : Addr} {od44 an44 : Option Addr} {sl44 : Array (Option Value)} {oc44 kV44 dc44 pm44 cd44 ct44 : Value}
    {f45 : Addr} {od45 an45 : Option Addr} {sl45 : Array (Option Value)} {oc45 kV45 dc45 pm45 cd45 ct45 : Value}
    {f46 : Addr} {od46 an46 : Option Addr} {sl46 : Array (Option Value)} {oc46 kV46 dc46 pm46 cd46 ct46 : Value}
    {f47 : Addr} {od47 an47 : Option Addr} {sl47 : Array (Option Value)} {oc47 kV47 dc47 pm47 cd47 ct47 : Value}
    {f48 : Addr} {od48 an48 : Option Addr} {sl48 : Array (Option Value)} {oc48 kV48 dc48 pm48 cd48 ct48 : Value}
    {tk_LONGEST_NAME : Tok}
    {tk_GREATEST_AMOUNT : Tok}
    {p_NOTHING : Addr} {o_NOTHING : Obj}
    {tk_BEYOND : Tok}
    {tk_MOST_NAMES : Tok}
    (xa_GossipError : PySem.W.nsIn K mainGlobals "GossipError" = some (some (.ref c_GossipError))) (xq_GossipError : PySem.W.excIn K c_GossipError [.type "ValueError", .type "Exception", .type "BaseException", .type "object"] "ValueError.__new__" = true) (xk_GossipError : PySem.W.keepIn K (.ref c_GossipError) = true) (xb_GossipError : PySem.W.subIn K (.ref c_GossipError) (.type "BaseException") = some true) (xt_GossipError : PySem.W.typeIn K (.ref c_GossipError) = some (.type "type"))
    (xa_NoName : PySem.W.nsIn K mainGlobals "NoName" = some (some (.ref c_NoName))) (xq_NoName : PySem.W.excIn K c_NoName [.type "ValueError", .type "Exception", .type "BaseException", .type "object"] "ValueError.__new__" = true) (xk_NoName : PySem.W.keepIn K (.ref c_NoName) = true) (xb_NoName : PySem.W.subIn K (.ref c_NoName) (.type "BaseException") = some true) (xt_NoName : PySem.W.typeIn K (.ref c_NoName) = some (.type "type"))
    (xa_NoAmount : PySem.W.nsIn K mainGlobals "NoAmount" = some (some (.ref c_NoAmount))) (xq_NoAmount : PySem.W.excIn K c_NoAmount [.type "ValueError", .type "Exception", .type "BaseException", .type "object"] "ValueError.__new__" = true) (xk_NoAmount : PySem.W.keepIn K (.ref c_NoAmount) = true) (xb_NoAmount : PySem.W.subIn K (.ref c_NoAmount) (.type "BaseException") = some true) (xt_NoAmount : PySem.W.typeIn K (.ref c_NoAmount) = some (.type "type"))
    (xa_NoPage : PySem.W.nsIn K mainGlobals "NoPage" = some (some (.ref c_NoPage))) (xq_NoPage : PySem.W.excIn K c_NoPage [.type "ValueError", .type "Exception", .type "BaseException", .type "object"] "ValueError.__new__" = true) (xk_NoPage : PySem.W.keepIn K (.ref c_NoPage) = true) (xb_NoPage : PySem.W.subIn K (.ref c_NoPage) (.type "BaseException") = some true) (xt_NoPage : PySem.W.typeIn K (.ref c_NoPage) = some (.type "type"))
    (xa_Forged : PySem.W.nsIn K mainGlobals "Forged" = some (some (.ref c_Forged))) (xq_Forged : PySem.W.excIn K c_Forged [.type "ValueError", .type "Exception", .type "BaseException", .type "object"] "ValueError.__new__" = true) (xk_Forged : PySem.W.keepIn K (.ref c_Forged) = true) (xb_Forged : PySem.W.subIn K (.ref c_Forged) (.type "BaseException") = some true) (xt_Forged : PySem.W.typeIn K (.ref c_Forged) = some (.type "type"))
    (xa_NoNote : PySem.W.nsIn K mainGlobals "NoNote" = some (some (.ref c_NoNote))) (xq_NoNote : PySem.W.excIn K c_NoNote [.type "ValueError", .type "Exception", .type "BaseException", .type "object"] "ValueError.__new__" = true) (xk_NoNote : PySem.W.keepIn K (.ref c_NoNote) = true) (xb_NoNote : PySem.W.subIn K (.ref c_NoNote) (.type "BaseException") = some true) (xt_NoNote : PySem.W.typeIn K (.ref c_NoNote) = some (.type "type"))
    (hdR : PySem.W.hasDictIn K c_GossipError = true)
    (sG_NoName : PySem.W.subIn K (.ref c_NoName) (.ref c_GossipError) = some true) (yg_NoName : PySem.W.findIn K (.ref c_NoName) "__getattribute__" = some (some (.builtin "BaseException.__getattribute__"))) (yk_NoName : PySem.W.findIn K (.ref c_NoName) "__getattr__" = some none) (yd_NoName : PySem.W.hasDictIn K c_NoName = true) (ya_NoName : PySem.W.findIn K (.ref c_NoName) "__class__" = some (some (.builtin "object.__class__"))) (yn_NoName : PySem.W.specialIn K (.builtin "object.__class__") "__get__" = some (some (.builtin "getset_descriptor.__get__"))) (yt_NoName : PySem.W.takesIn K (.builtin "object.__class__") = some true) (ym_NoName : PySem.W.mroIn K c_NoName (.type "object") = some true) (kv_NoName : PySem.W.kitOne K (.ref c_NoName) (.type "ValueError") = some true)
    (ki_NoName_NoName : PySem.W.kitOne K (.ref c_NoName) (.ref c_NoName) = some true)
    (ki_NoName_NoAmount : PySem.W.kitOne K (.ref c_NoName) (.ref c_NoAmount) = some false)
    (ki_NoName_NoPage : PySem.W.kitOne K (.ref c_NoName) (.ref c_NoPage) = some false)
    (ki_NoName_Forged : PySem.W.kitOne K (.ref c_NoName) (.ref c_Forged) = some false)
    (ki_NoName_NoNote : PySem.W.kitOne K (.ref c_NoName) (.ref c_NoNote) = some false)
    (sG_Forged : PySem.W.subIn K (.ref c_Forged) (.ref c_GossipError) = some true) (yg_Forged : PySem.W.findIn K (.ref c_Forged) "__getattribute__" = some (some (.builtin "BaseException.__getattribute__"))) (yk_Forged : PySem.W.findIn K (.ref c_Forged) "__getattr__" = some none) (yd_Forged : PySem.W.hasDictIn K c_Forged = true) (ya_Forged : PySem.W.findIn K (.ref c_Forged) "__class__" = some (some (.builtin "object.__class__"))) (yn_Forged : PySem.W.specialIn K (.builtin "object.__class__") "__get__" = some (some (.builtin "getset_descriptor.__get__"))) (yt_Forged : PySem.W.takesIn K (.builtin "object.__class__") = some true) (ym_Forged : PySem.W.mroIn K c_Forged (.type "object") = some true) (kv_Forged : PySem.W.kitOne K (.ref c_Forged) (.type "ValueError") = some true)
    (ki_Forged_NoName : PySem.W.kitOne K (.ref c_Forged) (.ref c_NoName) = some false)
    (ki_Forged_NoAmount : PySem.W.kitOne K (.ref c_Forged) (.ref c_NoAmount) = some false)
    (ki_Forged_NoPage : PySem.W.kitOne K (.ref c_Forged) (.ref c_NoPage) = some false)
    (ki_Forged_Forged : PySem.W.kitOne K (.ref c_Forged) (.ref c_Forged) = some true)
    (ki_Forged_NoNote : PySem.W.kitOne K (.ref c_Forged) (.ref c_NoNote) = some false)
    (ca_Hand : PySem.W.nsIn K mainGlobals "Hand" = some (some (.ref c_Hand))) (pg_Hand : PySem.W.plainGet K c_Hand Str.empty = true) (hd_Hand : PySem.W.hasDictIn K c_Hand = true) (po_Hand : PySem.W.plainOver K c_Hand = true) (sa_Hand : PySem.W.findIn K (.ref c_Hand) "__setattr__" = some (some (.builtin "object.__setattr__"))) (mm_Hand : PySem.W.makesIn K c_Hand = true) (kc_Hand : PySem.W.keepIn K (.ref c_Hand) = true)
    (ya_Hand : PySem.W.findIn K (.ref c_Hand) "__class__" = some (some (.builtin "object.__class__"))) (yn_Hand : PySem.W.specialIn K (.builtin "object.__class__") "__get__" = some (some (.builtin "getset_descriptor.__get__"))) (yt_Hand : PySem.W.takesIn K (.builtin "object.__class__") = some true) (ym_Hand : PySem.W.mroIn K c_Hand (.type "object") = some true) (ki_Hand : PySem.W.kitOne K (.ref c_Hand) (.ref c_Hand) = some true)
    (na_Hand_name : PySem.W.findIn K (.ref c_Hand) "name" = some none)
    (na_Hand_page : PySem.W.findIn K (.ref c_Hand) "_page" = some none)
    (ca_Room : PySem.W.nsIn K mainGlobals "Room" = some (some (.ref c_Room))) (pg_Room : PySem.W.plainGet K c_Room Str.empty = true) (hd_Room : PySem.W.hasDictIn K c_Room = true) (po_Room : PySem.W.plainOver K c_Room = true) (sa_Room : PySem.W.findIn K (.ref c_Room) "__setattr__" = some (some (.builtin "object.__setattr__"))) (mm_Room : PySem.W.makesIn K c_Room = true) (kc_Room : PySem.W.keepIn K (.ref c_Room) = true)
    (na_Room_hands : PySem.W.findIn K (.ref c_Room) "_hands" = some none)
    (a0 : PySem.W.nsIn K mainGlobals "is_name" = some (some (.ref f0))) (l0 : K.lookup f0 = some ⟨oc0, od0, .func (PySem.W.fnOf "is_name" "is_name" (defArgs s_is_name) (defBody s_is_name) (defScope s_is_name) .none kV0 dc0 pm0 an0 cd0 ct0), sl0⟩) (c0 : PySem.W.codeIn K cd0 "is_name" = true) (k0 : PySem.W.keepIn K (.ref f0) = true)
    (a1 : PySem.W.nsIn K mainGlobals "is_whole" = some (some (.ref f1))) (l1 : K.lookup f1 = some ⟨oc1, od1, .func (PySem.W.fnOf "is_whole" "is_whole" (defArgs s_is_whole) (defBody s_is_whole) (defScope s_is_whole) .none kV1 dc1 pm1 an1 cd1 ct1), sl1⟩) (c1 : PySem.W.codeIn K cd1 "is_whole" = true) (k1 : PySem.W.keepIn K (.ref f1) = true)
    (a2 : PySem.W.nsIn K mainGlobals "is_amount" = some (some (.ref f2))) (l2 : K.lookup f2 = some ⟨oc2, od2, .func (PySem.W.fnOf "is_amount" "is_amount" (defArgs s_is_amount) (defBody s_is_amount) (defScope s_is_amount) .none kV2 dc2 pm2 an2 cd2 ct2), sl2⟩) (c2 : PySem.W.codeIn K cd2 "is_amount" = true) (k2 : PySem.W.keepIn K (.ref f2) = true)
    (a3 : PySem.W.nsIn K mainGlobals "is_share" = some (some (.ref f3))) (l3 : K.lookup f3 = some ⟨oc3, od3, .func (PySem.W.fnOf "is_share" "is_share" (defArgs s_is_share) (defBody s_is_share) (defScope s_is_share) .none kV3 dc3 pm3 an3 cd3 ct3), sl3⟩) (c3 : PySem.W.codeIn K cd3 "is_share" = true) (k3 : PySem.W.keepIn K (.ref f3) = true)
    (a4 : PySem.W.nsIn K mainGlobals "greater" = some (some (.ref f4))) (l4 : K.lookup f4 = some ⟨oc4, od4, .func (PySem.W.fnOf "greater" "greater" (defArgs s_greater) (defBody s_greater) (defScope s_greater) .none kV4 dc4 pm4 an4 cd4 ct4), sl4⟩) (c4 : PySem.W.codeIn K cd4 "greater" = true) (k4 : PySem.W.keepIn K (.ref f4) = true)
    (a5 : PySem.W.nsIn K mainGlobals "reaches" = some (some (.ref f5))) (l5 : K.lookup f5 = some ⟨oc5, od5, .func (PySem.W.fnOf "reaches" "reaches" (defArgs s_reaches) (defBody s_reaches) (defScope s_reaches) .none kV5 dc5 pm5 an5 cd5 ct5), sl5⟩) (c5 : PySem.W.codeIn K cd5 "reaches" = true) (k5 : PySem.W.keepIn K (.ref f5) = true)
    (a6 : PySem.W.nsIn K mainGlobals "net" = some (some (.ref f6))) (l6 : K.lookup f6 = some ⟨oc6, od6, .func (PySem.W.fnOf "net" "net" (defArgs s_net) (defBody s_net) (defScope s_net) .none kV6 dc6 pm6 an6 cd6 ct6), sl6⟩) (c6 : PySem.W.codeIn K cd6 "net" = true) (k6 : PySem.W.keepIn K (.ref f6) = true)
    (a7 : PySem.W.nsIn K mainGlobals "is_page" = some (some (.ref f7))) (l7 : K.lookup f7 = some ⟨oc7, od7, .func (PySem.W.fnOf "is_page" "is_page" (defArgs s_is_page) (defBody s_is_page) (defScope s_is_page) .none kV7 dc7 pm7 an7 cd7 ct7), sl7⟩) (c7 : PySem.W.codeIn K cd7 "is_page" = true) (k7 : PySem.W.keepIn K (.ref f7) = true)
    (a8 : PySem.W.nsIn K mainGlobals "_is_entry" = some (some (.ref f8))) (l8 : K.lookup f8 = some ⟨oc8, od8, .func (PySem.W.fnOf "_is_entry" "_is_entry" (defArgs s_is_entry) (defBody s_is_entry) (defScope s_is_entry) .none kV8 dc8 pm8 an8 cd8 ct8), sl8⟩) (c8 : PySem.W.codeIn K cd8 "_is_entry" = true) (k8 : PySem.W.keepIn K (.ref f8) = true)
    (a9 : PySem.W.nsIn K mainGlobals "share_of" = some (some (.ref f9))) (l9 : K.lookup f9 = some ⟨oc9, od9, .func (PySem.W.fnOf "share_of" "share_of" (defArgs s_share_of) (defBody s_share_of) (defScope s_share_of) .none kV9 dc9 pm9 an9 cd9 ct9), sl9⟩) (c9 : PySem.W.codeIn K cd9 "share_of" = true) (k9 : PySem.W.keepIn K (.ref f9) = true)
    (a10 : PySem.W.nsIn K mainGlobals "joined" = some (some (.ref f10))) (l10 : K.lookup f10 = some ⟨oc10, od10, .func (PySem.W.fnOf "joined" "joined" (defArgs s_joined) (defBody s_joined) (defScope s_joined) .none kV10 dc10 pm10 an10 cd10 ct10), sl10⟩) (c10 : PySem.W.codeIn K cd10 "joined" = true) (k10 : PySem.W.keepIn K (.ref f10) = true)
    (a11 : PySem.W.nsIn K mainGlobals "lacking" = some (some (.ref f11))) (l11 : K.lookup f11 = some ⟨oc11, od11, .func (PySem.W.fnOf "lacking" "lacking" (defArgs s_lacking) (defBody s_lacking) (defScope s_lacking) .none kV11 dc11 pm11 an11 cd11 ct11), sl11⟩) (c11 : PySem.W.codeIn K cd11 "lacking" = true) (k11 : PySem.W.keepIn K (.ref f11) = true)
    (a12 : PySem.W.nsIn K mainGlobals "total" = some (some (.ref f12))) (l12 : K.lookup f12 = some ⟨oc12, od12, .func (PySem.W.fnOf "total" "total" (defArgs s_total) (defBody s_total) (defScope s_total) .none kV12 dc12 pm12 an12 cd12 ct12), sl12⟩) (c12 : PySem.W.codeIn K cd12 "total" = true) (k12 : PySem.W.keepIn K (.ref f12) = true)
    (a13 : PySem.W.findIn K (.ref c_Hand) "__init__" = some (some (.ref f13))) (i13 : PySem.W.isFn K (.ref f13) = true) (l13 : K.lookup f13 = some ⟨oc13, od13, .func (PySem.W.fnOf "__init__" "Hand.__init__" (defArgs s_Hand_init) (defBody s_Hand_init) (defScope s_Hand_init) .none kV13 dc13 pm13 an13 cd13 ct13), sl13⟩) (c13 : PySem.W.codeIn K cd13 "Hand.__init__" = true) (k13 : PySem.W.keepIn K (.ref f13) = true)
    (a14 : PySem.W.findIn K (.ref c_Hand) "up" = some (some (.ref f14))) (i14 : PySem.W.isFn K (.ref f14) = true) (l14 : K.lookup f14 = some ⟨oc14, od14, .func (PySem.W.fnOf "up" "Hand.up" (defArgs s_Hand_up) (defBody s_Hand_up) (defScope s_Hand_up) .none kV14 dc14 pm14 an14 cd14 ct14), sl14⟩) (c14 : PySem.W.codeIn K cd14 "Hand.up" = true) (k14 : PySem.W.keepIn K (.ref f14) = true)
    (a15 : PySem.W.findIn K (.ref c_Hand) "down" = some (some (.ref f15))) (i15 : PySem.W.isFn K (.ref f15) = true) (l15 : K.lookup f15 = some ⟨oc15, od15, .func (PySem.W.fnOf "down" "Hand.down" (defArgs s_Hand_down) (defBody s_Hand_down) (defScope s_Hand_down) .none kV15 dc15 pm15 an15 cd15 ct15), sl15⟩) (c15 : PySem.W.codeIn K cd15 "Hand.down" = true) (k15 : PySem.W.keepIn K (.ref f15) = true)
    (a16 : PySem.W.findIn K (.ref c_Hand) "_add" = some (some (.ref f16))) (i16 : PySem.W.isFn K (.ref f16) = true) (l16 : K.lookup f16 = some ⟨oc16, od16, .func (PySem.W.fnOf "_add" "Hand._add" (defArgs s_Hand_add) (defBody s_Hand_add) (defScope s_Hand_add) .none kV16 dc16 pm16 an16 cd16 ct16), sl16⟩) (c16 : PySem.W.codeIn K cd16 "Hand._add" = true) (k16 : PySem.W.keepIn K (.ref f16) = true)
    (a17 : PySem.W.findIn K (.ref c_Hand) "page" = some (some (.ref f17))) (i17 : PySem.W.isFn K (.ref f17) = true) (l17 : K.lookup f17 = some ⟨oc17, od17, .func (PySem.W.fnOf "page" "Hand.page" (defArgs s_Hand_page) (defBody s_Hand_page) (defScope s_Hand_page) .none kV17 dc17 pm17 an17 cd17 ct17), sl17⟩) (c17 : PySem.W.codeIn K cd17 "Hand.page" = true) (k17 : PySem.W.keepIn K (.ref f17) = true)
    (a18 : PySem.W.findIn K (.ref c_Hand) "told" = some (some (.ref f18))) (i18 : PySem.W.isFn K (.ref f18) = true) (l18 : K.lookup f18 = some ⟨oc18, od18, .func (PySem.W.fnOf "told" "Hand.told" (defArgs s_Hand_told) (defBody s_Hand_told) (defScope s_Hand_told) .none kV18 dc18 pm18 an18 cd18 ct18), sl18⟩) (c18 : PySem.W.codeIn K cd18 "Hand.told" = true) (k18 : PySem.W.keepIn K (.ref f18) = true)
    (a19 : PySem.W.findIn K (.ref c_Hand) "letter" = some (some (.ref f19))) (i19 : PySem.W.isFn K (.ref f19) = true) (l19 : K.lookup f19 = some ⟨oc19, od19, .func (PySem.W.fnOf "letter" "Hand.letter" (defArgs s_Hand_letter) (defBody s_Hand_letter) (defScope s_Hand_letter) .none kV19 dc19 pm19 an19 cd19 ct19), sl19⟩) (c19 : PySem.W.codeIn K cd19 "Hand.letter" = true) (k19 : PySem.W.keepIn K (.ref f19) = true)
    (a20 : PySem.W.findIn K (.ref c_Hand) "trusts" = some (some (.ref f20))) (i20 : PySem.W.isFn K (.ref f20) = true) (l20 : K.lookup f20 = some ⟨oc20, od20, .func (PySem.W.fnOf "trusts" "Hand.trusts" (defArgs s_Hand_trusts) (defBody s_Hand_trusts) (defScope s_Hand_trusts) .none kV20 dc20 pm20 an20 cd20 ct20), sl20⟩) (c20 : PySem.W.codeIn K cd20 "Hand.trusts" = true) (k20 : PySem.W.keepIn K (.ref f20) = true)
    (a21 : PySem.W.findIn K (.ref c_Hand) "hear" = some (some (.ref f21))) (i21 : PySem.W.isFn K (.ref f21) = true) (l21 : K.lookup f21 = some ⟨oc21, od21, .func (PySem.W.fnOf "hear" "Hand.hear" (defArgs s_Hand_hear) (defBody s_Hand_hear) (defScope s_Hand_hear) .none kV21 dc21 pm21 an21 cd21 ct21), sl21⟩) (c21 : PySem.W.codeIn K cd21 "Hand.hear" = true) (k21 : PySem.W.keepIn K (.ref f21) = true)
    (a22 : PySem.W.findIn K (.ref c_Hand) "learn" = some (some (.ref f22))) (i22 : PySem.W.isFn K (.ref f22) = true) (l22 : K.lookup f22 = some ⟨oc22, od22, .func (PySem.W.fnOf "learn" "Hand.learn" (defArgs s_Hand_learn) (defBody s_Hand_learn) (defScope s_Hand_learn) .none kV22 dc22 pm22 an22 cd22 ct22), sl22⟩) (c22 : PySem.W.codeIn K cd22 "Hand.learn" = true) (k22 : PySem.W.keepIn K (.ref f22) = true)
    (a23 : PySem.W.nsIn K mainGlobals "_check_amount" = some (some (.ref f23))) (l23 : K.lookup f23 = some ⟨oc23, od23, .func (PySem.W.fnOf "_check_amount" "_check_amount" (defArgs s_check_amount) (defBody s_check_amount) (defScope s_check_amount) .none kV23 dc23 pm23 an23 cd23 ct23), sl23⟩) (c23 : PySem.W.codeIn K cd23 "_check_amount" = true) (k23 : PySem.W.keepIn K (.ref f23) = true)
    (a24 : PySem.W.nsIn K mainGlobals "_check_page" = some (some (.ref f24))) (l24 : K.lookup f24 = some ⟨oc24, od24, .func (PySem.W.fnOf "_check_page" "_check_page" (defArgs s_check_page) (defBody s_check_page) (defScope s_check_page) .none kV24 dc24 pm24 an24 cd24 ct24), sl24⟩) (c24 : PySem.W.codeIn K cd24 "_check_page" = true) (k24 : PySem.W.keepIn K (.ref f24) = true)
    (a25 : PySem.W.findIn K (.ref c_Room) "__init__" = some (some (.ref f25))) (i25 : PySem.W.isFn K (.ref f25) = true) (l25 : K.lookup f25 = some ⟨oc25, od25, .func (PySem.W.fnOf "__init__" "Room.__init__" (defArgs s_Room_init) (defBody s_Room_init) (defScope s_Room_init) .none kV25 dc25 pm25 an25 cd25 ct25), sl25⟩) (c25 : PySem.W.codeIn K cd25 "Room.__init__" = true) (k25 : PySem.W.keepIn K (.ref f25) = true)
    (a26 : PySem.W.findIn K (.ref c_Room) "hand" = some (some (.ref f26))) (i26 : PySem.W.isFn K (.ref f26) = true) (l26 : K.lookup f26 = some ⟨oc26, od26, .func (PySem.W.fnOf "hand" "Room.hand" (defArgs s_Room_hand) (defBody s_Room_hand) (defScope s_Room_hand) .none kV26 dc26 pm26 an26 cd26 ct26), sl26⟩) (c26 : PySem.W.codeIn K cd26 "Room.hand" = true) (k26 : PySem.W.keepIn K (.ref f26) = true)
    (a27 : PySem.W.findIn K (.ref c_Room) "meet" = some (some (.ref f27))) (i27 : PySem.W.isFn K (.ref f27) = true) (l27 : K.lookup f27 = some ⟨oc27, od27, .func (PySem.W.fnOf "meet" "Room.meet" (defArgs s_Room_meet) (defBody s_Room_meet) (defScope s_Room_meet) .none kV27 dc27 pm27 an27 cd27 ct27), sl27⟩) (c27 : PySem.W.codeIn K cd27 "Room.meet" = true) (k27 : PySem.W.keepIn K (.ref f27) = true)
    (a28 : PySem.W.findIn K (.ref c_Room) "settled" = some (some (.ref f28))) (i28 : PySem.W.isFn K (.ref f28) = true) (l28 : K.lookup f28 = some ⟨oc28, od28, .func (PySem.W.fnOf "settled" "Room.settled" (defArgs s_Room_settled) (defBody s_Room_settled) (defScope s_Room_settled) .none kV28 dc28 pm28 an28 cd28 ct28), sl28⟩) (c28 : PySem.W.codeIn K cd28 "Room.settled" = true) (k28 : PySem.W.keepIn K (.ref f28) = true)
    (a29 : PySem.W.nsIn K mainGlobals "_law_cell_at" = some (some (.ref f29))) (l29 : K.lookup f29 = some ⟨oc29, od29, .func (PySem.W.fnOf "_law_cell_at" "_law_cell_at" (defArgs s_law_cell_at) (defBody s_law_cell_at) (defScope s_law_cell_at) .none kV29 dc29 pm29 an29 cd29 ct29), sl29⟩) (c29 : PySem.W.codeIn K cd29 "_law_cell_at" = true) (k29 : PySem.W.keepIn K (.ref f29) = true)
    (a30 : PySem.W.nsIn K mainGlobals "_law_whole" = some (some (.ref f30))) (l30 : K.lookup f30 = some ⟨oc30, od30, .func (PySem.W.fnOf "_law_whole" "_law_whole" (defArgs s_law_whole) (defBody s_law_whole) (defScope s_law_whole) .none kV30 dc30 pm30 an30 cd30 ct30), sl30⟩) (c30 : PySem.W.codeIn K cd30 "_law_whole" = true) (k30 : PySem.W.keepIn K (.ref f30) = true)
    (a31 : PySem.W.nsIn K mainGlobals "_law_share" = some (some (.ref f31))) (l31 : K.lookup f31 = some ⟨oc31, od31, .func (PySem.W.fnOf "_law_share" "_law_share" (defArgs s_law_share) (defBody s_law_share) (defScope s_law_share) .none kV31 dc31 pm31 an31 cd31 ct31), sl31⟩) (c31 : PySem.W.codeIn K cd31 "_law_share" = true) (k31 : PySem.W.keepIn K (.ref f31) = true)
    (a32 : PySem.W.nsIn K mainGlobals "_law_name_by" = some (some (.ref f32))) (l32 : K.lookup f32 = some ⟨oc32, od32, .func (PySem.W.fnOf "_law_name_by" "_law_name_by" (defArgs s_law_name_by) (defBody s_law_name_by) (defScope s_law_name_by) .none kV32 dc32 pm32 an32 cd32 ct32), sl32⟩) (c32 : PySem.W.codeIn K cd32 "_law_name_by" = true) (k32 : PySem.W.keepIn K (.ref f32) = true)
    (a33 : PySem.W.nsIn K mainGlobals "_law_same" = some (some (.ref f33))) (l33 : K.lookup f33 = some ⟨oc33, od33, .func (PySem.W.fnOf "_law_same" "_law_same" (defArgs s_law_same) (defBody s_law_same) (defScope s_law_same) .none kV33 dc33 pm33 an33 cd33 ct33), sl33⟩) (c33 : PySem.W.codeIn K cd33 "_law_same" = true) (k33 : PySem.W.keepIn K (.ref f33) = true)
    (a34 : PySem.W.nsIn K mainGlobals "_law_joined" = some (some (.ref f34))) (l34 : K.lookup f34 = some ⟨oc34, od34, .func (PySem.W.fnOf "_law_joined" "_law_joined" (defArgs s_law_joined) (defBody s_law_joined) (defScope s_law_joined) .none kV34 dc34 pm34 an34 cd34 ct34), sl34⟩) (c34 : PySem.W.codeIn K cd34 "_law_joined" = true) (k34 : PySem.W.keepIn K (.ref f34) = true)
    (a35 : PySem.W.nsIn K mainGlobals "_law_names" = some (some (.ref f35))) (l35 : K.lookup f35 = some ⟨oc35, od35, .func (PySem.W.fnOf "_law_names" "_law_names" (defArgs s_law_names) (defBody s_law_names) (defScope s_law_names) .none kV35 dc35 pm35 an35 cd35 ct35), sl35⟩) (c35 : PySem.W.codeIn K cd35 "_law_names" = true) (k35 : PySem.W.keepIn K (.ref f35) = true)
    (a36 : PySem.W.nsIn K mainGlobals "_law_truth" = some (some (.ref f36))) (l36 : K.lookup f36 = some ⟨oc36, od36, .func (PySem.W.fnOf "_law_truth" "_law_truth" (defArgs s_law_truth) (defBody s_law_truth) (defScope s_law_truth) .none kV36 dc36 pm36 an36 cd36 ct36), sl36⟩) (c36 : PySem.W.codeIn K cd36 "_law_truth" = true) (k36 : PySem.W.keepIn K (.ref f36) = true)
    (a37 : PySem.W.nsIn K mainGlobals "_law_kind" = some (some (.ref f37))) (l37 : K.lookup f37 = some ⟨oc37, od37, .func (PySem.W.fnOf "_law_kind" "_law_kind" (defArgs s_law_kind) (defBody s_law_kind) (defScope s_law_kind) .none kV37 dc37 pm37 an37 cd37 ct37), sl37⟩) (c37 : PySem.W.codeIn K cd37 "_law_kind" = true) (k37 : PySem.W.keepIn K (.ref f37) = true)
    (a38 : PySem.W.nsIn K mainGlobals "_law_total" = some (some (.ref f38))) (l38 : K.lookup f38 = some ⟨oc38, od38, .func (PySem.W.fnOf "_law_total" "_law_total" (defArgs s_law_total) (defBody s_law_total) (defScope s_law_total) .none kV38 dc38 pm38 an38 cd38 ct38), sl38⟩) (c38 : PySem.W.codeIn K cd38 "_law_total" = true) (k38 : PySem.W.keepIn K (.ref f38) = true)
    (a39 : PySem.W.nsIn K mainGlobals "_law_count" = some (some (.ref f39))) (l39 : K.lookup f39 = some ⟨oc39, od39, .func (PySem.W.fnOf "_law_count" "_law_count" (defArgs s_law_count) (defBody s_law_count) (defScope s_law_count) .none kV39 dc39 pm39 an39 cd39 ct39), sl39⟩) (c39 : PySem.W.codeIn K cd39 "_law_count" = true) (k39 : PySem.W.keepIn K (.ref f39) = true)
    (a40 : PySem.W.nsIn K mainGlobals "_law_trusts" = some (some (.ref f40))) (l40 : K.lookup f40 = some ⟨oc40, od40, .func (PySem.W.fnOf "_law_trusts" "_law_trusts" (defArgs s_law_trusts) (defBody s_law_trusts) (defScope s_law_trusts) .none kV40 dc40 pm40 an40 cd40 ct40), sl40⟩) (c40 : PySem.W.codeIn K cd40 "_law_trusts" = true) (k40 : PySem.W.keepIn K (.ref f40) = true)
    (a41 : PySem.W.nsIn K mainGlobals "_law_met" = some (some (.ref f41))) (l41 : K.lookup f41 = some ⟨oc41, od41, .func (PySem.W.fnOf "_law_met" "_law_met" (defArgs s_law_met) (defBody s_law_met) (defScope s_law_met) .none kV41 dc41 pm41 an41 cd41 ct41), sl41⟩) (c41 : PySem.W.codeIn K cd41 "_law_met" = true) (k41 : PySem.W.keepIn K (.ref f41) = true)
    (a42 : PySem.W.nsIn K mainGlobals "_law_handless" = some (some (.ref f42))) (l42 : K.lookup f42 = some ⟨oc42, od42, .func (PySem.W.fnOf "_law_handless" "_law_handless" (defArgs s_law_handless) (defBody s_law_handless) (defScope s_law_handless) .none kV42 dc42 pm42 an42 cd42 ct42), sl42⟩) (c42 : PySem.W.codeIn K cd42 "_law_handless" = true) (k42 : PySem.W.keepIn K (.ref f42) = true)
    (a43 : PySem.W.nsIn K mainGlobals "_law_roomless" = some (some (.ref f43))) (l43 : K.lookup f43 = some ⟨oc43, od43, .func (PySem.W.fnOf "_law_roomless" "_law_roomless" (defArgs s_law_roomless) (defBody s_law_roomless) (defScope s_law_roomless) .none kV43 dc43 pm43 an43 cd43 ct43), sl43⟩) (c43 : PySem.W.codeIn K cd43 "_law_roomless" = true) (k43 : PySem.W.keepIn K (.ref f43) = true)
    (a44 : PySem.W.nsIn K mainGlobals "_law_meeting" = some (some (.ref f44))) (l44 : K.lookup f44 = some ⟨oc44, od44, .func (PySem.W.fnOf "_law_meeting" "_law_meeting" (defArgs s_law_meeting) (defBody s_law_meeting) (defScope s_law_meeting) .none kV44 dc44 pm44 an44 cd44 ct44), sl44⟩) (c44 : PySem.W.codeIn K cd44 "_law_meeting" = true) (k44 : PySem.W.keepIn K (.ref f44) = true)
    (a45 : PySem.W.nsIn K mainGlobals "_law_told" = some (some (.ref f45))) (l45 : K.lookup f45 = some ⟨oc45, od45, .func (PySem.W.fnOf "_law_told" "_law_told" (defArgs s_law_told) (defBody s_law_told) (defScope s_law_told) .none kV45 dc45 pm45 an45 cd45 ct45), sl45⟩) (c45 : PySem.W.codeIn K cd45 "_law_told" = true) (k45 : PySem.W.keepIn K (.ref f45) = true)
    (a46 : PySem.W.nsIn K mainGlobals "_law_strange" = some (some (.ref f46))) (l46 : K.lookup f46 = some ⟨oc46, od46, .func (PySem.W.fnOf "_law_strange" "_law_strange" (defArgs s_law_strange) (defBody s_law_strange) (defScope s_law_strange) .none kV46 dc46 pm46 an46 cd46 ct46), sl46⟩) (c46 : PySem.W.codeIn K cd46 "_law_strange" = true) (k46 : PySem.W.keepIn K (.ref f46) = true)
    (a47 : PySem.W.nsIn K mainGlobals "_law_deed" = some (some (.ref f47))) (l47 : K.lookup f47 = some ⟨oc47, od47, .func (PySem.W.fnOf "_law_deed" "_law_deed" (defArgs s_law_deed) (defBody s_law_deed) (defScope s_law_deed) .none kV47 dc47 pm47 an47 cd47 ct47), sl47⟩) (c47 : PySem.W.codeIn K cd47 "_law_deed" = true) (k47 : PySem.W.keepIn K (.ref f47) = true)
    (a48 : PySem.W.nsIn K mainGlobals "law" = some (some (.ref f48))) (l48 : K.lookup f48 = some ⟨oc48, od48, .func (PySem.W.fnOf "law" "law" (defArgs s_law) (defBody s_law) (defScope s_law) .none kV48 dc48 pm48 an48 cd48 ct48), sl48⟩) (c48 : PySem.W.codeIn K cd48 "law" = true) (k48 : PySem.W.keepIn K (.ref f48) = true)
    (z_ValueError : PySem.W.nsIn K mainGlobals "ValueError" = some none)
    (z_all : PySem.W.nsIn K mainGlobals "all" = some none)
    (z_bool : PySem.W.nsIn K mainGlobals "bool" = some none)
    (z_dict : PySem.W.nsIn K mainGlobals "dict" = some none)
    (z_int : PySem.W.nsIn K mainGlobals "int" = some none)
    (z_isinstance : PySem.W.nsIn K mainGlobals "isinstance" = some none)
    (z_len : PySem.W.nsIn K mainGlobals "len" = some none)
    (z_list : PySem.W.nsIn K mainGlobals "list" = some none)
    (z_max : PySem.W.nsIn K mainGlobals "max" = some none)
    (z_range : PySem.W.nsIn K mainGlobals "range" = some none)
    (z_set : PySem.W.nsIn K mainGlobals "set" = some none)
    (z_sorted : PySem.W.nsIn K mainGlobals "sorted" = some none)
    (z_str : PySem.W.nsIn K mainGlobals "str" = some none)
    (z_sum : PySem.W.nsIn K mainGlobals "sum" = some none)
    (z_tuple : PySem.W.nsIn K mainGlobals "tuple" = some none)
    (g_LONGEST_NAME : PySem.W.nsIn K mainGlobals "LONGEST_NAME" = some (some (.int (8) tk_LONGEST_NAME)))
    (g_GREATEST_AMOUNT : PySem.W.nsIn K mainGlobals "GREATEST_AMOUNT" = some (some (.int (1000000000) tk_GREATEST_AMOUNT)))
    (g_NOTHING : PySem.W.nsIn K mainGlobals "NOTHING" = some (some (.ref p_NOTHING))) (q_NOTHING : K.lookup p_NOTHING = some o_NOTHING) (r_NOTHING : tupInts o_NOTHING [0, 0] = true)
    (g_BEYOND : PySem.W.nsIn K mainGlobals "BEYOND" = some (some (.int (1000000000000000000000000000000000000000000000000000000000000) tk_BEYOND)))
    (g_MOST_NAMES : PySem.W.nsIn K mainGlobals "MOST_NAMES" = some (some (.int (200) tk_MOST_NAMES))) :
    ∃ fd : FuncData, (∀ (s : Shared) (v : Value), BindsTo s fd ⟨[v], []⟩ [("_law_script", v)]) ∧ ∀ base : Heap, K.In base → base.Ns mainGlobals mg → FnOk l.prog w K mg base CX0 8 fa fd ["_law_script"] (spLaw K) := by
  have e := hfa.symm.trans (PySem.W.mg_of X G a48)
  cases e
  have F0 := fun_mk (st := s_is_name) l0 c0 k0
  have b0 := F0.binds (ps := ["thing"]) fun _ _ _ _ _ _ us hl => match us, hl with | [_], _ => rfl
  have F1 := fun_mk (st := s_is_whole) l1 c1 k1
  have b1 := F1.binds (ps := ["thing"]) fun _ _ _ _ _ _ us hl => match us, hl with | [_], _ => rfl
  have F2 := fun_mk (st := s_is_amount) l2 c2 k2
  have b2 := F2.binds (ps := ["thing"]) fun _ _ _ _ _ _ us hl => match us, hl with | [_], _ => rfl
  have F3 := fun_mk (st := s_is_share) l3 c3 k3
  have b3 := F3.binds (ps := ["thing"]) fun _ _ _ _ _ _ us hl => match us, hl with | [_], _ => rfl
  have F4 := fun_mk (st := s_greater) l4 c4 k4
  have b4 := F4.binds (ps := ["one", "other"]) fun _ _ _ _ _ _ us hl => match us, hl with | [_, _], _ => rfl
  have F5 := fun_mk (st := s_reaches) l5 c5 k5
  have b5 := F5.binds (ps := ["one", "other"]) fun _ _ _ _ _ _ us hl => match us, hl with | [_, _], _ => rfl
  have F6 := fun_mk (st := s_net) l6 c6 k6
  have b6 := F6.binds (ps := ["share"]) fun _ _ _ _ _ _ us hl => match us, hl with | [_], _ => rfl
  have F7 := fun_mk (st := s_is_page) l7 c7 k7
  have b7 := F7.binds (ps := ["thing"]) fun _ _ _ _ _ _ us hl => match us, hl with | [_], _ => rfl
  have F8 := fun_mk (st := s_is_entry) l8 c8 k8
  have b8 := F8.binds (ps := ["name", "share"]) fun _ _ _ _ _ _ us hl => match us, hl with | [_, _], _ => rfl
  have F9 := fun_mk (st := s_share_of) l9 c9 k9
  have b9 := F9.binds (ps := ["page", "name"]) fun _ _ _ _ _ _ us hl => match us, hl with | [_, _], _ => rfl
  have F10 := fun_mk (st := s_joined) l10 c10 k10
  have b10 := F10.binds (ps := ["one", "other"]) fun _ _ _ _ _ _ us hl => match us, hl with | [_, _], _ => rfl
  have F11 := fun_mk (st := s_lacking) l11 c11 k11
  have b11 := F11.binds (ps := ["one", "other"]) fun _ _ _ _ _ _ us hl => match us, hl with | [_, _], _ => rfl
  have F12 := fun_mk (st := s_total) l12 c12 k12
  have b12 := F12.binds (ps := ["page"]) fun _ _ _ _ _ _ us hl => match us, hl with | [_], _ => rfl
  have F13 := fun_mk (st := s_Hand_init) l13 c13 k13
  have b13 := F13.binds (ps := ["self", "name"]) fun _ _ _ _ _ _ us hl => match us, hl with | [_, _], _ => rfl
  have F14 := fun_mk (st := s_Hand_up) l14 c14 k14
  have b14 := F14.binds (ps := ["self", "many"]) fun _ _ _ _ _ _ us hl => match us, hl with | [_, _], _ => rfl
  have F15 := fun_mk (st := s_Hand_down) l15 c15 k15
  have b15 := F15.binds (ps := ["self", "many"]) fun _ _ _ _ _ _ us hl => match us, hl with | [_, _], _ => rfl
  have F16 := fun_mk (st := s_Hand_add) l16 c16 k16
  have b16 := F16.binds (ps := ["self", "raised", "lowered"]) fun _ _ _ _ _ _ us hl => match us, hl with | [_, _, _], _ => rfl
  have F17 := fun_mk (st := s_Hand_page) l17 c17 k17
  have b17 := F17.binds (ps := ["self"]) fun _ _ _ _ _ _ us hl => match us, hl with | [_], _ => rfl
  have F18 := fun_mk (st := s_Hand_told) l18 c18 k18
  have b18 := F18.binds (ps := ["self"]) fun _ _ _ _ _ _ us hl => match us, hl with | [_], _ => rfl
  have F19 := fun_mk (st := s_Hand_letter) l19 c19 k19
  have b19 := F19.binds (ps := ["self", "page"]) fun _ _ _ _ _ _ us hl => match us, hl with | [_, _], _ => rfl
  have F20 := fun_mk (st := s_Hand_trusts) l20 c20 k20
  have b20 := F20.binds (ps := ["self", "page"]) fun _ _ _ _ _ _ us hl => match us, hl with | [_, _], _ => rfl
  have F21 := fun_mk (st := s_Hand_hear) l21 c21 k21
  have b21 := F21.binds (ps := ["self", "page"]) fun _ _ _ _ _ _ us hl => match us, hl with | [_, _], _ => rfl
  have F22 := fun_mk (st := s_Hand_learn) l22 c22 k22
  have b22 := F22.binds (ps := ["self", "page"]) fun _ _ _ _ _ _ us hl => match us, hl with | [_, _], _ => rfl
  have F23 := fun_mk (st := s_check_amount) l23 c23 k23
  have b23 := F23.binds (ps := ["thing"]) fun _ _ _ _ _ _ us hl => match us, hl with | [_], _ => rfl
  have F24 := fun_mk (st := s_check_page) l24 c24 k24
  have b24 := F24.binds (ps := ["thing"]) fun _ _ _ _ _ _ us hl => match us, hl with | [_], _ => rfl
  have F25 := fun_mk (st := s_Room_init) l25 c25 k25
  have b25 := F25.binds (ps := ["self", "names"]) fun _ _ _ _ _ _ us hl => match us, hl with | [_, _], _ => rfl
  have F26 := fun_mk (st := s_Room_hand) l26 c26 k26
  have b26 := F26.binds (ps := ["self", "name"]) fun _ _ _ _ _ _ us hl => match us, hl with | [_, _], _ => rfl
  have F27 := fun_mk (st := s_Room_meet) l27 c27 k27
  have b27 := F27.binds (ps := ["self", "one", "other"]) fun _ _ _ _ _ _ us hl => match us, hl with | [_, _, _], _ => rfl
  have F28 := fun_mk (st := s_Room_settled) l28 c28 k28
  have b28 := F28.binds (ps := ["self"]) fun _ _ _ _ _ _ us hl => match us, hl with | [_], _ => rfl
  have F29 := fun_mk (st := s_law_cell_at) l29 c29 k29
  have b29 := F29.binds (ps := ["_law_script", "_law_k"]) fun _ _ _ _ _ _ us hl => match us, hl with | [_, _], _ => rfl
  have F30 := fun_mk (st := s_law_whole) l30 c30 k30
  have b30 := F30.binds (ps := ["_law_found"]) fun _ _ _ _ _ _ us hl => match us, hl with | [_], _ => rfl
  have F31 := fun_mk (st := s_law_share) l31 c31 k31
  have b31 := F31.binds (ps := ["_law_found", "_law_due"]) fun _ _ _ _ _ _ us hl => match us, hl with | [_, _], _ => rfl
  have F32 := fun_mk (st := s_law_name_by) l32 c32 k32
  have b32 := F32.binds (ps := ["_law_cell"]) fun _ _ _ _ _ _ us hl => match us, hl with | [_], _ => rfl
  have F33 := fun_mk (st := s_law_same) l33 c33 k33
  have b33 := F33.binds (ps := ["_law_found", "_law_due"]) fun _ _ _ _ _ _ us hl => match us, hl with | [_, _], _ => rfl
  have F34 := fun_mk (st := s_law_joined) l34 c34 k34
  have b34 := F34.binds (ps := ["_law_one", "_law_other"]) fun _ _ _ _ _ _ us hl => match us, hl with | [_, _], _ => rfl
  have F35 := fun_mk (st := s_law_names) l35 c35 k35
  have b35 := F35.binds (ps := ["_law_script", "_law_size"]) fun _ _ _ _ _ _ us hl => match us, hl with | [_, _], _ => rfl
  have F36 := fun_mk (st := s_law_truth) l36 c36 k36
  have b36 := F36.binds (ps := ["_law_found", "_law_due"]) fun _ _ _ _ _ _ us hl => match us, hl with | [_, _], _ => rfl
  have F37 := fun_mk (st := s_law_kind) l37 c37 k37
  have b37 := F37.binds (ps := ["_law_error"]) fun _ _ _ _ _ _ us hl => match us, hl with | [_], _ => rfl
  have F38 := fun_mk (st := s_law_total) l38 c38 k38
  have b38 := F38.binds (ps := ["_law_page"]) fun _ _ _ _ _ _ us hl => match us, hl with | [_], _ => rfl
  have F39 := fun_mk (st := s_law_count) l39 c39 k39
  have b39 := F39.binds (ps := ["_law_one", "_law_other"]) fun _ _ _ _ _ _ us hl => match us, hl with | [_, _], _ => rfl
  have F40 := fun_mk (st := s_law_trusts) l40 c40 k40
  have b40 := F40.binds (ps := ["_law_pages", "_law_name", "_law_other"]) fun _ _ _ _ _ _ us hl => match us, hl with | [_, _, _], _ => rfl
  have F41 := fun_mk (st := s_law_met) l41 c41 k41
  have b41 := F41.binds (ps := ["_law_room", "_law_one", "_law_other"]) fun _ _ _ _ _ _ us hl => match us, hl with | [_, _, _], _ => rfl
  have F42 := fun_mk (st := s_law_handless) l42 c42 k42
  have b42 := F42.binds (ps := ["_law_room", "_law_name"]) fun _ _ _ _ _ _ us hl => match us, hl with | [_, _], _ => rfl
  have F43 := fun_mk (st := s_law_roomless) l43 c43 k43
  have b43 := F43.binds (ps := ["_law_names_here", "_law_cell"]) fun _ _ _ _ _ _ us hl => match us, hl with | [_, _], _ => rfl
  have F44 := fun_mk (st := s_law_meeting) l44 c44 k44
  have b44 := F44.binds (ps := ["_law_room", "_law_pages", "_law_one", "_law_other"]) fun _ _ _ _ _ _ us hl => match us, hl with | [_, _, _, _], _ => rfl
  have F45 := fun_mk (st := s_law_told) l45 c45 k45
  have b45 := F45.binds (ps := ["_law_room", "_law_pages", "_law_one", "_law_other"]) fun _ _ _ _ _ _ us hl => match us, hl with | [_, _, _, _], _ => rfl
  have F46 := fun_mk (st := s_law_strange) l46 c46 k46
  have b46 := F46.binds (ps := ["_law_names_here", "_law_cell"]) fun _ _ _ _ _ _ us hl => match us, hl with | [_, _], _ => rfl
  have F47 := fun_mk (st := s_law_deed) l47 c47 k47
  have b47 := F47.binds (ps := ["_law_room", "_law_pages", "_law_names_here", "_law_cell", "_law_k"]) fun _ _ _ _ _ _ us hl => match us, hl with | [_, _, _, _, _], _ => rfl
  have F48 := fun_mk (st := s_law) l48 c48 k48
  have b48 := F48.binds (ps := ["_law_script"]) fun _ _ _ _ _ _ us hl => match us, hl with | [_], _ => rfl
  let T : Txt K mg := { c_GossipError := c_GossipError, x_GossipError := ⟨PySem.W.mg_of X G xa_GossipError, xq_GossipError, xk_GossipError, xb_GossipError, xt_GossipError⟩, c_NoName := c_NoName, x_NoName := ⟨PySem.W.mg_of X G xa_NoName, xq_NoName, xk_NoName, xb_NoName, xt_NoName⟩, c_NoAmount := c_NoAmount, x_NoAmount := ⟨PySem.W.mg_of X G xa_NoAmount, xq_NoAmount, xk_NoAmount, xb_NoAmount, xt_NoAmount⟩, c_NoPage := c_NoPage, x_NoPage := ⟨PySem.W.mg_of X G xa_NoPage, xq_NoPage, xk_NoPage, xb_NoPage, xt_NoPage⟩, c_Forged := c_Forged, x_Forged := ⟨PySem.W.mg_of X G xa_Forged, xq_Forged, xk_Forged, xb_Forged, xt_Forged⟩, c_NoNote := c_NoNote, x_NoNote := ⟨PySem.W.mg_of X G xa_NoNote, xq_NoNote, xk_NoNote, xb_NoNote, xt_NoNote⟩, e_NoName := PySem.W.exm_ref xb_GossipError hdR xt_GossipError sG_NoName, k_NoName := ⟨yg_NoName, yk_NoName, xb_NoName, yd_NoName, ya_NoName, yn_NoName, yt_NoName, ym_NoName⟩, kv_NoName := kv_NoName, ki_NoName_NoName := ki_NoName_NoName, ki_NoName_NoAmount := ki_NoName_NoAmount, ki_NoName_NoPage := ki_NoName_NoPage, ki_NoName_Forged := ki_NoName_Forged, ki_NoName_NoNote := ki_NoName_NoNote, e_Forged := PySem.W.exm_ref xb_GossipError hdR xt_GossipError sG_Forged, k_Forged := ⟨yg_Forged, yk_Forged, xb_Forged, yd_Forged, ya_Forged, yn_Forged, yt_Forged, ym_Forged⟩, kv_Forged := kv_Forged, ki_Forged_NoName := ki_Forged_NoName, ki_Forged_NoAmount := ki_Forged_NoAmount, ki_Forged_NoPage := ki_Forged_NoPage, ki_Forged_Forged := ki_Forged_Forged, ki_Forged_NoNote := ki_Forged_NoNote, c_Hand := c_Hand, cl_Hand := ⟨pg_Hand, hd_Hand, po_Hand, sa_Hand⟩, g_Hand := PySem.W.mg_of X G ca_Hand, ic_Hand := ⟨ya_Hand, yn_Hand, yt_Hand, ym_Hand, ki_Hand⟩, na_Hand_name := na_Hand_name, na_Hand_page := na_Hand_page, c_Room := c_Room, cl_Room := ⟨pg_Room, hd_Room, po_Room, sa_Room⟩, g_Room := PySem.W.mg_of X G ca_Room, na_Room_hands := na_Room_hands, a_is_name := f0, d_is_name := _, h_is_name := ⟨PySem.W.mg_of X G a0, F0, b0⟩, a_is_whole := f1, d_is_whole := _, h_is_whole := ⟨PySem.W.mg_of X G a1, F1, b1⟩, a_is_amount := f2, d_is_amount := _, h_is_amount := ⟨PySem.W.mg_of X G a2, F2, b2⟩, a_is_share := f3, d_is_share := _, h_is_share := ⟨PySem.W.mg_of X G a3, F3, b3⟩, a_greater := f4, d_greater := _, h_greater := ⟨PySem.W.mg_of X G a4, F4, b4⟩, a_reaches := f5, d_reaches := _, h_reaches := ⟨PySem.W.mg_of X G a5, F5, b5⟩, a_net := f6, d_net := _, h_net := ⟨PySem.W.mg_of X G a6, F6, b6⟩, a_is_page := f7, d_is_page := _, h_is_page := ⟨PySem.W.mg_of X G a7, F7, b7⟩, a_is_entry := f8, d_is_entry := _, h_is_entry := ⟨PySem.W.mg_of X G a8, F8, b8⟩, a_share_of := f9, d_share_of := _, h_share_of := ⟨PySem.W.mg_of X G a9, F9, b9⟩, a_joined := f10, d_joined := _, h_joined := ⟨PySem.W.mg_of X G a10, F10, b10⟩, a_lacking := f11, d_lacking := _, h_lacking := ⟨PySem.W.mg_of X G a11, F11, b11⟩, a_total := f12, d_total := _, h_total := ⟨PySem.W.mg_of X G a12, F12, b12⟩, a_Hand_init := f13, d_Hand_init := _, h_Hand_init := ⟨F13, b13⟩, mk_Hand := ⟨mm_Hand, a13, i13, kc_Hand⟩, a_Hand_up := f14, d_Hand_up := _, h_Hand_up := ⟨⟨a14, i14, k14⟩, F14, b14⟩, a_Hand_down := f15, d_Hand_down := _, h_Hand_down := ⟨⟨a15, i15, k15⟩, F15, b15⟩, a_Hand_add := f16, d_Hand_add := _, h_Hand_add := ⟨⟨a16, i16, k16⟩, F16, b16⟩, a_Hand_page := f17, d_Hand_page := _, h_Hand_page := ⟨⟨a17, i17, k17⟩, F17, b17⟩, a_Hand_told := f18, d_Hand_told := _, h_Hand_told := ⟨⟨a18, i18, k18⟩, F18, b18⟩, a_Hand_letter := f19, d_Hand_letter := _, h_Hand_letter := ⟨⟨a19, i19, k19⟩, F19, b19⟩, a_Hand_trusts := f20, d_Hand_trusts := _, h_Hand_trusts := ⟨⟨a20, i20, k20⟩, F20, b20⟩, a_Hand_hear := f21, d_Hand_hear := _, h_Hand_hear := ⟨⟨a21, i21, k21⟩, F21, b21⟩, a_Hand_learn := f22, d_Hand_learn := _, h_Hand_learn := ⟨⟨a22, i22, k22⟩, F22, b22⟩, a_check_amount := f23, d_check_amount := _, h_check_amount := ⟨PySem.W.mg_of X G a23, F23, b23⟩, a_check_page := f24, d_check_page := _, h_check_page := ⟨PySem.W.mg_of X G a24, F24, b24⟩, a_Room_init := f25, d_Room_init := _, h_Room_init := ⟨F25, b25⟩, mk_Room := ⟨mm_Room, a25, i25, kc_Room⟩, a_Room_hand := f26, d_Room_hand := _, h_Room_hand := ⟨⟨a26, i26, k26⟩, F26, b26⟩, a_Room_meet := f27, d_Room_meet := _, h_Room_meet := ⟨⟨a27, i27, k27⟩, F27, b27⟩, a_Room_settled := f28, d_Room_settled := _, h_Room_settled := ⟨⟨a28, i28, k28⟩, F28, b28⟩, a_law_cell_at := f29, d_law_cell_at := _, h_law_cell_at := ⟨PySem.W.mg_of X G a29, F29, b29⟩, a_law_whole := f30, d_law_whole := _, h_law_whole := ⟨PySem.W.mg_of X G a30, F30, b30⟩, a_law_share := f31, d_law_share := _, h_law_share := ⟨PySem.W.mg_of X G a31, F31, b31⟩, a_law_name_by := f32, d_law_name_by := _, h_law_name_by := ⟨PySem.W.mg_of X G a32, F32, b32⟩, a_law_same := f33, d_law_same := _, h_law_same := ⟨PySem.W.mg_of X G a33, F33, b33⟩, a_law_joined := f34, d_law_joined := _, h_law_joined := ⟨PySem.W.mg_of X G a34, F34, b34⟩, a_law_names := f35, d_law_names := _, h_law_names := ⟨PySem.W.mg_of X G a35, F35, b35⟩, a_law_truth := f36, d_law_truth := _, h_law_truth := ⟨PySem.W.mg_of X G a36, F36, b36⟩, a_law_kind := f37, d_law_kind := _, h_law_kind := ⟨PySem.W.mg_of X G a37, F37, b37⟩, a_law_total := f38, d_law_total := _, h_law_total := ⟨PySem.W.mg_of X G a38, F38, b38⟩, a_law_count := f39, d_law_count := _, h_law_count := ⟨PySem.W.mg_of X G a39, F39, b39⟩, a_law_trusts := f40, d_law_trusts := _, h_law_trusts := ⟨PySem.W.mg_of X G a40, F40, b40⟩, a_law_met := f41, d_law_met := _, h_law_met := ⟨PySem.W.mg_of X G a41, F41, b41⟩, a_law_handless := f42, d_law_handless := _, h_law_handless := ⟨PySem.W.mg_of X G a42, F42, b42⟩, a_law_roomless := f43, d_law_roomless := _, h_law_roomless := ⟨PySem.W.mg_of X G a43, F43, b43⟩, a_law_meeting := f44, d_law_meeting := _, h_law_meeting := ⟨PySem.W.mg_of X G a44, F44, b44⟩, a_law_told := f45, d_law_told := _, h_law_told := ⟨PySem.W.mg_of X G a45, F45, b45⟩, a_law_strange := f46, d_law_strange := _, h_law_strange := ⟨PySem.W.mg_of X G a46, F46, b46⟩, a_law_deed := f47, d_law_deed := _, h_law_deed := ⟨PySem.W.mg_of X G a47, F47, b47⟩, a_law := fa, d_law := _, h_law := ⟨PySem.W.mg_of X G a48, F48, b48⟩, n_ValueError := PySem.W.mg_none_of X G z_ValueError, n_all := PySem.W.mg_none_of X G z_all, n_bool := PySem.W.mg_none_of X G z_bool, n_dict := PySem.W.mg_none_of X G z_dict, n_int := PySem.W.mg_none_of X G z_int, n_isinstance := PySem.W.mg_none_of X G z_isinstance, n_len := PySem.W.mg_none_of X G z_len, n_list := PySem.W.mg_none_of X G z_list, n_max := PySem.W.mg_none_of X G z_max, n_range := PySem.W.mg_none_of X G z_range, n_set := PySem.W.mg_none_of X G z_set, n_sorted := PySem.W.mg_none_of X G z_sorted, n_str := PySem.W.mg_none_of X G z_str, n_sum := PySem.W.mg_none_of X G z_sum, n_tuple := PySem.W.mg_none_of X G z_tuple, v_LONGEST_NAME := _, g_LONGEST_NAME := ⟨PySem.W.mg_of X G g_LONGEST_NAME, ⟨_, rfl⟩⟩, v_GREATEST_AMOUNT := _, g_GREATEST_AMOUNT := ⟨PySem.W.mg_of X G g_GREATEST_AMOUNT, ⟨_, rfl⟩⟩, p_NOTHING := p_NOTHING, g_NOTHING := ⟨PySem.W.mg_of X G g_NOTHING, rfl⟩, t_NOTHING := fun H => sqT_written q_NOTHING r_NOTHING, v_BEYOND := _, g_BEYOND := ⟨PySem.W.mg_of X G g_BEYOND, ⟨_, rfl⟩⟩, v_MOST_NAMES := _, g_MOST_NAMES := ⟨PySem.W.mg_of X G g_MOST_NAMES, ⟨_, rfl⟩⟩ }
  exact ⟨_, fun s v => .of_eq rfl, fun base _ _ => ok_law T⟩
theorem walk {l : PySem.W.OpenLaw} {q : Program} {loose : List Str} {XP : (Str → Option Value) → Heap → Prop} {YP : World → Heap → Prop} {d : DefRec} {K : Params → PySem.W.Frag} (hn : l.most = some 63) (hdf : d.params.defaults = [])
    (hY : ∀ (w : World) (h : Heap), YP w h → (K w.params).In h)
    (F : ∀ (w : World) (mg : Str → Option Value) (fa : Addr) (h : Heap), (K w.params).In h → h.Ns mainGlobals mg → mg d.name = some (.ref fa) →
      ∃ fd : FuncData, (∀ (s : Shared) (u : Value), BindsTo s fd ⟨[u], []⟩ [("_law_script", u)]) ∧ ∀ base : Heap, (K w.params).In base → base.Ns mainGlobals mg → FnOk l.prog w (K w.params) mg base CX0 8 fa fd ["_law_script"] (spLaw (K w.params))) :
    PySem.W.WalkO q loose XP YP l.row.toRowW d [] (fun f vs => PySem.call f vs) :=
  L2.walk_of (n := 63) (k := 8) (x := "_law_script") (CX := fun _ => CX0) (sp := fun w => spLaw (K w.params)) hn (by decide) hdf ⟨rfl, by decide, by decide⟩ hY F (fun _ _ a ns hl _ hS => ⟨a, ns, rfl, hS, hl, fun _ => rfl⟩) fun _ _ _ _ _ z => z
end GC
open PySem PySem.W PyProof.Rows
set_option maxRecDepth 100000 in
set_option maxHeartbeats 0 in
theorem PySem.Challenge.cw_gossipcount_k12_rooms_holds : PySem.Challenge.rw_gossipcount_k12_rooms.Holds := by
  w_on; o_law; k_head; (case hw => w_witness2)
  k_fill
  refine GC.walk (l := PySem.Challenge.rw_gossipcount_k12_rooms) rfl rfl (fun w h Y => PySem.W.kIn_of Y) ?F
  case F =>
    intro w mg fa h KX G hmg
    refine' GC.all_mk KX G hmg ?xa_GossipError ?xq_GossipError ?xk_GossipError ?xb_GossipError ?xt_GossipError ?xa_NoName ?xq_NoName ?xk_NoName ?xb_NoName ?xt_NoName ?xa_NoAmount ?xq_NoAmount ?xk_NoAmount ?xb_NoAmount ?xt_NoAmount ?xa_NoPage ?xq_NoPage ?xk_NoPage ?xb_NoPage ?xt_NoPage ?xa_Forged ?xq_Forged ?xk_Forged ?xb_Forged ?xt_Forged ?xa_NoNote ?xq_NoNote ?xk_NoNote ?xb_NoNote ?xt_NoNote ?hdR ?sG_NoName ?yg_NoName ?yk_NoName ?yd_NoName ?ya_NoName ?yn_NoName ?yt_NoName ?ym_NoName ?kv_NoName ?ki_NoName_NoName ?ki_NoName_NoAmount ?ki_NoName_NoPage ?ki_NoName_Forged ?ki_NoName_NoNote ?sG_Forged ?yg_Forged ?yk_Forged ?yd_Forged ?ya_Forged ?yn_Forged ?yt_Forged ?ym_Forged ?kv_Forged ?ki_Forged_NoName ?ki_Forged_NoAmount ?ki_Forged_NoPage ?ki_Forged_Forged ?ki_Forged_NoNote ?ca_Hand ?pg_Hand ?hd_Hand ?po_Hand ?sa_Hand ?mm_Hand ?kc_Hand ?ya_Hand ?yn_Hand ?yt_Hand ?ym_Hand ?ki_Hand ?na_Hand_name ?na_Hand_page ?ca_Room ?pg_Room ?hd_Room ?po_Room ?sa_Room ?mm_Room ?kc_Room ?na_Room_hands ?a0 ?l0 ?c0 ?k0 ?a1 ?l1 ?c1 ?k1 ?a2 ?l2 ?c2 ?k2 ?a3 ?l3 ?c3 ?k3 ?a4 ?l4 ?c4 ?k4 ?a5 ?l5 ?c5 ?k5 ?a6 ?l6 ?c6 ?k6 ?a7 ?l7 ?c7 ?k7 ?a8 ?l8 ?c8 ?k8 ?a9 ?l9 ?c9 ?k9 ?a10 ?l10 ?c10 ?k10 ?a11 ?l11 ?c11 ?k11 ?a12 ?l12 ?c12 ?k12 ?a13 ?i13 ?l13 ?c13 ?k13 ?a14 ?i14 ?l14 ?c14 ?k14 ?a15 ?i15 ?l15 ?c15 ?k15 ?a16 ?i16 ?l16 ?c16 ?k16 ?a17 ?i17 ?l17 ?c17 ?k17 ?a18 ?i18 ?l18 ?c18 ?k18 ?a19 ?i19 ?l19 ?c19 ?k19 ?a20 ?i20 ?l20 ?c20 ?k20 ?a21 ?i21 ?l21 ?c21 ?k21 ?a22 ?i22 ?l22 ?c22 ?k22 ?a23 ?l23 ?c23 ?k23 ?a24 ?l24 ?c24 ?k24 ?a25 ?i25 ?l25 ?c25 ?k25 ?a26 ?i26 ?l26 ?c26 ?k26 ?a27 ?i27 ?l27 ?c27 ?k27 ?a28 ?i28 ?l28 ?c28 ?k28 ?a29 ?l29 ?c29 ?k29 ?a30 ?l30 ?c30 ?k30 ?a31 ?l31 ?c31 ?k31 ?a32 ?l32 ?c32 ?k32 ?a33 ?l33 ?c33 ?k33 ?a34 ?l34 ?c34 ?k34 ?a35 ?l35 ?c35 ?k35 ?a36 ?l36 ?c36 ?k36 ?a37 ?l37 ?c37 ?k37 ?a38 ?l38 ?c38 ?k38 ?a39 ?l39 ?c39 ?k39 ?a40 ?l40 ?c40 ?k40 ?a41 ?l41 ?c41 ?k41 ?a42 ?l42 ?c42 ?k42 ?a43 ?l43 ?c43 ?k43 ?a44 ?l44 ?c44 ?k44 ?a45 ?l45 ?c45 ?k45 ?a46 ?l46 ?c46 ?k46 ?a47 ?l47 ?c47 ?k47 ?a48 ?l48 ?c48 ?k48 ?z_ValueError ?z_all ?z_bool ?z_dict ?z_int ?z_isinstance ?z_len ?z_list ?z_max ?z_range ?z_set ?z_sorted ?z_str ?z_sum ?z_tuple ?g_LONGEST_NAME ?g_GREATEST_AMOUNT ?g_NOTHING ?q_NOTHING ?r_NOTHING ?g_BEYOND ?g_MOST_NAMES
    (case xa_GossipError => k_is)
    (case xq_GossipError => k_exc)
    (case xk_GossipError => k_is)
    (case xb_GossipError => k_is)
    (case xt_GossipError => k_is)
    (case xa_NoName => k_is)
    (case xq_NoName => k_exc)
    (case xk_NoName => k_is)
    (case xb_NoName => k_is)
    (case xt_NoName => k_is)
    (case xa_NoAmount => k_is)
    (case xq_NoAmount => k_exc)
    (case xk_NoAmount => k_is)
    (case xb_NoAmount => k_is)
    (case xt_NoAmount => k_is)
    (case xa_NoPage => k_is)
    (case xq_NoPage => k_exc)
    (case xk_NoPage => k_is)
    (case xb_NoPage => k_is)
    (case xt_NoPage => k_is)
    (case xa_Forged => k_is)
    (case xq_Forged => k_exc)
    (case xk_Forged => k_is)
    (case xb_Forged => k_is)
    (case xt_Forged => k_is)
    (case xa_NoNote => k_is)
    (case xq_NoNote => k_exc)
    (case xk_NoNote => k_is)
    (case xb_NoNote => k_is)
    (case xt_NoNote => k_is)
    (case hdR => k_is)
    (case sG_NoName => k_is)
    (case yg_NoName => k_is)
    (case yk_NoName => k_is)
    (case yd_NoName => k_is)
    (case ya_NoName => k_is)
    (case yn_NoName => k_is)
    (case yt_NoName => k_is)
    (case ym_NoName => k_is)
    (case kv_NoName => kit_is)
    (case ki_NoName_NoName => kit_is)
    (case ki_NoName_NoAmount => kit_is)
    (case ki_NoName_NoPage => kit_is)
    (case ki_NoName_Forged => kit_is)
    (case ki_NoName_NoNote => kit_is)
    (case sG_Forged => k_is)
    (case yg_Forged => k_is)
    (case yk_Forged => k_is)
    (case yd_Forged => k_is)
    (case ya_Forged => k_is)
    (case yn_Forged => k_is)
    (case yt_Forged => k_is)
    (case ym_Forged => k_is)
    (case kv_Forged => kit_is)
    (case ki_Forged_NoName => kit_is)
    (case ki_Forged_NoAmount => kit_is)
    (case ki_Forged_NoPage => kit_is)
    (case ki_Forged_Forged => kit_is)
    (case ki_Forged_NoNote => kit_is)
    (case ca_Hand => k_is)
    (case pg_Hand => k_is)
    (case hd_Hand => k_is)
    (case po_Hand => k_is)
    (case sa_Hand => k_is)
    (case mm_Hand => k_is)
    (case kc_Hand => k_is)
    (case ya_Hand => k_is)
    (case yn_Hand => k_is)
    (case yt_Hand => k_is)
    (case ym_Hand => k_is)
    (case ki_Hand => kit_is)
    (case na_Hand_name => k_is)
    (case na_Hand_page => k_is)
    (case ca_Room => k_is)
    (case pg_Room => k_is)
    (case hd_Room => k_is)
    (case po_Room => k_is)
    (case sa_Room => k_is)
    (case mm_Room => k_is)
    (case kc_Room => k_is)
    (case na_Room_hands => k_is)
    (case a0 => k_is)
    (case l0 => k_is)
    (case c0 => k_is)
    (case k0 => k_is)
    (case a1 => k_is)
    (case l1 => k_is)
    (case c1 => k_is)
    (case k1 => k_is)
    (case a2 => k_is)
    (case l2 => k_is)
    (case c2 => k_is)
    (case k2 => k_is)
    (case a3 => k_is)
    (case l3 => k_is)
    (case c3 => k_is)
    (case k3 => k_is)
    (case a4 => k_is)
    (case l4 => k_is)
    (case c4 => k_is)
    (case k4 => k_is)
    (case a5 => k_is)
    (case l5 => k_is)
    (case c5 => k_is)
    (case k5 => k_is)
    (case a6 => k_is)
    (case l6 => k_is)
    (case c6 => k_is)
    (case k6 => k_is)
    (case a7 => k_is)
    (case l7 => k_is)
    (case c7 => k_is)
    (case k7 => k_is)
    (case a8 => k_is)
    (case l8 => k_is)
    (case c8 => k_is)
    (case k8 => k_is)
    (case a9 => k_is)
    (case l9 => k_is)
    (case c9 => k_is)
    (case k9 => k_is)
    (case a10 => k_is)
    (case l10 => k_is)
    (case c10 => k_is)
    (case k10 => k_is)
    (case a11 => k_is)
    (case l11 => k_is)
    (case c11 => k_is)
    (case k11 => k_is)
    (case a12 => k_is)
    (case l12 => k_is)
    (case c12 => k_is)
    (case k12 => k_is)
    (case a13 => k_is)
    (case i13 => k_is)
    (case l13 => k_is)
    (case c13 => k_is)
    (case k13 => k_is)
    (case a14 => k_is)
    (case i14 => k_is)
    (case l14 => k_is)
    (case c14 => k_is)
    (case k14 => k_is)
    (case a15 => k_is)
    (case i15 => k_is)
    (case l15 => k_is)
    (case c15 => k_is)
    (case k15 => k_is)
    (case a16 => k_is)
    (case i16 => k_is)
    (case l16 => k_is)
    (case c16 => k_is)
    (case k16 => k_is)
    (case a17 => k_is)
    (case i17 => k_is)
    (case l17 => k_is)
    (case c17 => k_is)
    (case k17 => k_is)
    (case a18 => k_is)
    (case i18 => k_is)
    (case l18 => k_is)
    (case c18 => k_is)
    (case k18 => k_is)
    (case a19 => k_is)
    (case i19 => k_is)
    (case l19 => k_is)
    (case c19 => k_is)
    (case k19 => k_is)
    (case a20 => k_is)
    (case i20 => k_is)
    (case l20 => k_is)
    (case c20 => k_is)
    (case k20 => k_is)
    (case a21 => k_is)
    (case i21 => k_is)
    (case l21 => k_is)
    (case c21 => k_is)
    (case k21 => k_is)
    (case a22 => k_is)
    (case i22 => k_is)
    (case l22 => k_is)
    (case c22 => k_is)
    (case k22 => k_is)
    (case a23 => k_is)
    (case l23 => k_is)
    (case c23 => k_is)
    (case k23 => k_is)
    (case a24 => k_is)
    (case l24 => k_is)
    (case c24 => k_is)
    (case k24 => k_is)
    (case a25 => k_is)
    (case i25 => k_is)
    (case l25 => k_is)
    (case c25 => k_is)
    (case k25 => k_is)
    (case a26 => k_is)
    (case i26 => k_is)
    (case l26 => k_is)
    (case c26 => k_is)
    (case k26 => k_is)
    (case a27 => k_is)
    (case i27 => k_is)
    (case l27 => k_is)
    (case c27 => k_is)
    (case k27 => k_is)
    (case a28 => k_is)
    (case i28 => k_is)
    (case l28 => k_is)
    (case c28 => k_is)
    (case k28 => k_is)
    (case a29 => k_is)
    (case l29 => k_is)
    (case c29 => k_is)
    (case k29 => k_is)
    (case a30 => k_is)
    (case l30 => k_is)
    (case c30 => k_is)
    (case k30 => k_is)
    (case a31 => k_is)
    (case l31 => k_is)
    (case c31 => k_is)
    (case k31 => k_is)
    (case a32 => k_is)
    (case l32 => k_is)
    (case c32 => k_is)
    (case k32 => k_is)
    (case a33 => k_is)
    (case l33 => k_is)
    (case c33 => k_is)
    (case k33 => k_is)
    (case a34 => k_is)
    (case l34 => k_is)
    (case c34 => k_is)
    (case k34 => k_is)
    (case a35 => k_is)
    (case l35 => k_is)
    (case c35 => k_is)
    (case k35 => k_is)
    (case a36 => k_is)
    (case l36 => k_is)
    (case c36 => k_is)
    (case k36 => k_is)
    (case a37 => k_is)
    (case l37 => k_is)
    (case c37 => k_is)
    (case k37 => k_is)
    (case a38 => k_is)
    (case l38 => k_is)
    (case c38 => k_is)
    (case k38 => k_is)
    (case a39 => k_is)
    (case l39 => k_is)
    (case c39 => k_is)
    (case k39 => k_is)
    (case a40 => k_is)
    (case l40 => k_is)
    (case c40 => k_is)
    (case k40 => k_is)
    (case a41 => k_is)
    (case l41 => k_is)
    (case c41 => k_is)
    (case k41 => k_is)
    (case a42 => k_is)
    (case l42 => k_is)
    (case c42 => k_is)
    (case k42 => k_is)
    (case a43 => k_is)
    (case l43 => k_is)
    (case c43 => k_is)
    (case k43 => k_is)
    (case a44 => k_is)
    (case l44 => k_is)
    (case c44 => k_is)
    (case k44 => k_is)
    (case a45 => k_is)
    (case l45 => k_is)
    (case c45 => k_is)
    (case k45 => k_is)
    (case a46 => k_is)
    (case l46 => k_is)
    (case c46 => k_is)
    (case k46 => k_is)
    (case a47 => k_is)
    (case l47 => k_is)
    (case c47 => k_is)
    (case k47 => k_is)
    (case a48 => k_is)
    (case l48 => k_is)
    (case c48 => k_is)
    (case k48 => k_is)
    (case z_ValueError => k_is)
    (case z_all => k_is)
    (case z_bool => k_is)
    (case z_dict => k_is)
    (case z_int => k_is)
    (case z_isinstance => k_is)
    (case z_len => k_is)
    (case z_list => k_is)
    (case z_max => k_is)
    (case z_range => k_is)
    (case z_set => k_is)
    (case z_sorted => k_is)
    (case z_str => k_is)
    (case z_sum => k_is)
    (case z_tuple => k_is)
    (case g_LONGEST_NAME => k_is)
    (case g_GREATEST_AMOUNT => k_is)
    (case g_NOTHING => k_is)
    (case q_NOTHING => k_is)
    (case r_NOTHING => rfl)
    (case g_BEYOND => k_is)
    (case g_MOST_NAMES => k_is)
