import PyProof.Rows.All
import Wide.All
import OpenK.AllK
import Wide.FinOn
import HandS.ForMost
import HandS.Evl
import HandS.IsInst
import HandS.Style
import HandS.DictComp
import HandS.SortInts
import HandS.SetKeys

import HandS.Walk
import HandS.TryOnly
import HandS.Set
import HandS.SetFor
import HandS.More
import KE.GoesEnum
import PySem.Challenge.RW_gossipcount_k11_whole_calls
set_option Elab.async false
set_option linter.all false
set_option maxRecDepth 100000
set_option maxHeartbeats 4000000
namespace GC
open PySem
/-! ### every slot of a set's table is met: i to 5 i + 1 -/
def lcg (N : Nat) : Nat → Nat → Nat
  | 0, i => i
  | m + 1, i => lcg N m ((i * 5 + 1) % N)
def orb (N : Nat) : Nat → Nat → Nat → Nat
  | 0, _, acc => acc
  | n + 1, x, acc => orb N n ((x * 5 + 1) % N) (acc ||| (1 <<< x))
theorem orb_bit {N : Nat} : ∀ {n x acc j : Nat}, (orb N n x acc).testBit j = true → acc.testBit j = true ∨ ∃ m, m < n ∧ lcg N m x = j
  | 0, _, _, _, h => .inl h
  | n + 1, x, acc, j, h => by
    rcases orb_bit (n := n) h with h | ⟨m, h1, h2⟩
    · rw [Nat.testBit_or, Bool.or_eq_true] at h
      rcases h with h | h
      · exact .inl h
      · refine .inr ⟨0, Nat.succ_pos _, ?_⟩
        rw [Nat.one_shiftLeft, Nat.testBit_two_pow] at h
        exact of_decide_eq_true h
    · exact .inr ⟨m + 1, Nat.succ_lt_succ h1, h2⟩
theorem lcg_add {N : Nat} : ∀ (a b i : Nat), lcg N (a + b) i = lcg N b (lcg N a i)
  | 0, b, i => by rw [Nat.zero_add]; rfl
  | a + 1, b, i => by
    rw [Nat.succ_add]
    exact lcg_add a b _
def goodN (N : Nat) : Bool := decide (orb N N 0 0 = 2 ^ N - 1) && decide (lcg N N 0 = 0)
theorem lcg_all {N : Nat} (h : goodN N = true) {i j : Nat} (hi : i < N) (hj : j < N) : ∃ m, m < N ∧ lcg N m i = j := by
  unfold goodN at h
  rw [Bool.and_eq_true] at h
  have h1 := of_decide_eq_true h.1
  have h2 := of_decide_eq_true h.2
  have all : ∀ j, j < N → ∃ m, m < N ∧ lcg N m 0 = j := fun j hj => by
    have : (orb N N 0 0).testBit j = true := by rw [h1, Nat.testBit_two_pow_sub_one]; exact decide_eq_true hj
    rcases orb_bit this with h | h
    · simp at h
    · exact h
  obtain ⟨a, ha, ea⟩ := all i hi
  obtain ⟨b, hb, eb⟩ := all j hj
  rcases Nat.le_total a b with hab | hab
  · refine ⟨b - a, by omega, ?_⟩
    rw [← ea, ← lcg_add, show a + (b - a) = b by omega, eb]
  · rcases Nat.eq_or_lt_of_le hab with e | lt
    · exact ⟨0, by omega, by rw [← ea, ← e, ← eb]; rfl⟩
    · refine ⟨N - a + b, by omega, ?_⟩
      rw [← ea, ← lcg_add, show a + (N - a + b) = N + b by omega, lcg_add, h2, eb]
theorem good_sizes : ∀ N ∈ [8, 16, 32, 64, 128, 256, 512, 1024, 2048], goodN N = true := by decide +kernel
/-- the steps of a search: the slot and what is left of the hash -/
def leaps (mask : Nat) : Nat → Nat × Nat → Nat × Nat
  | 0, p => p
  | m + 1, p => leaps mask m (SetTable.leap mask p.1 p.2)
theorem leaps_zero {mask : Nat} : ∀ (m i : Nat), leaps mask m (i, 0) = (lcg (mask + 1) m i, 0)
  | 0, _ => rfl
  | m + 1, i => by
    show leaps mask m (SetTable.leap mask i 0) = _
    unfold SetTable.leap
    rw [Nat.zero_div, Nat.add_zero]
    exact leaps_zero m _
theorem leaps_add {mask : Nat} : ∀ (a b : Nat) (p : Nat × Nat), leaps mask (a + b) p = leaps mask b (leaps mask a p)
  | 0, b, p => by rw [Nat.zero_add]; rfl
  | a + 1, b, p => by
    rw [Nat.succ_add]
    exact leaps_add a b _
theorem leaps_pert {mask : Nat} : ∀ (m : Nat) (p : Nat × Nat), (leaps mask m p).2 = p.2 / 32 ^ m
  | 0, p => by rw [Nat.pow_zero, Nat.div_one]; rfl
  | m + 1, p => by
    show (leaps mask m _).2 = _
    rw [leaps_pert m]
    show p.2 / 32 / 32 ^ m = _
    rw [Nat.div_div_eq_div_mul, ← Nat.pow_succ']
theorem leaps_lt {mask : Nat} : ∀ (m : Nat) (p : Nat × Nat), p.1 < mask + 1 → (leaps mask m p).1 < mask + 1
  | 0, _, h => h
  | m + 1, p, _ => leaps_lt m _ (Nat.mod_lt _ (Nat.succ_pos _))
theorem leaps_all {mask : Nat} (h : goodN (mask + 1) = true) {p : Nat × Nat} (h1 : p.1 < mask + 1) (h2 : p.2 < 2 ^ 64) {j : Nat} (hj : j < mask + 1) : ∃ m, m < SetTable.turns mask ∧ (leaps mask m p).1 = j := by
  have hp : (leaps mask 13 p).2 = 0 := by
    rw [leaps_pert]
    exact Nat.div_eq_of_lt (Nat.lt_of_lt_of_le h2 (by decide))
  obtain ⟨m, hm, e⟩ := lcg_all h (leaps_lt 13 p h1) hj
  refine ⟨13 + m, by unfold SetTable.turns; omega, ?_⟩
  rw [leaps_add]
  have : leaps mask 13 p = ((leaps mask 13 p).1, 0) := by rw [← hp]
  rw [this, leaps_zero]
  exact e
/-- a free slot is found -/
theorem free_none {mask : Nat} {owner : Array (Option Nat)} : ∀ (fuel i pert : Nat), i ≤ mask → SetTable.layClean.free mask owner fuel i pert = none → ∀ m, m < fuel → (owner.getD (leaps mask m (i, pert)).1 (some 0)).isNone = false
  | 0, _, _, _, _, m, h => absurd h (Nat.not_lt_zero _)
  | fuel + 1, i, pert, hi, h, m, hm => by
    unfold SetTable.layClean.free at h
    split at h
    · cases h
    · rename_i e
      cases m with
      | zero =>
        have h0 := List.find?_eq_none.mp e 0 (List.mem_range.mpr (by unfold SetTable.runEnd; split <;> omega))
        rw [Nat.add_zero, Bool.not_eq_true] at h0
        exact h0
      | succ m => exact free_none fuel _ _ (Nat.le_of_lt_succ (Nat.mod_lt _ (Nat.succ_pos _))) h m (Nat.lt_of_succ_lt_succ hm)
theorem free_some {mask : Nat} {owner : Array (Option Nat)} : ∀ (fuel i pert : Nat) {j : Nat}, i ≤ mask → SetTable.layClean.free mask owner fuel i pert = some j → j ≤ mask ∧ (owner.getD j (some 0)).isNone = true
  | 0, _, _, _, _, h => by cases h
  | fuel + 1, i, pert, j, hi, h => by
    unfold SetTable.layClean.free at h
    split at h
    · rename_i k e
      obtain rfl := Option.some.inj h
      have h1 := List.mem_of_find?_eq_some e
      have h2 := List.find?_some (p := fun k => (owner.getD (i + k) (some 0)).isNone) e
      have h3 := List.mem_range.mp h1
      refine ⟨?_, h2⟩
      unfold SetTable.runEnd at h3
      split at h3 <;> omega
    · exact free_some fuel _ _ (Nat.le_of_lt_succ (Nat.mod_lt _ (Nat.succ_pos _))) h
theorem free_is {mask : Nat} {owner : Array (Option Nat)} (h : goodN (mask + 1) = true) {i pert j : Nat} (hi : i ≤ mask) (hp : pert < 2 ^ 64) (hj : j ≤ mask) (hn : (owner.getD j (some 0)).isNone = true) :
    ∃ j', SetTable.layClean.free mask owner (SetTable.turns mask) i pert = some j' ∧ j' ≤ mask ∧ (owner.getD j' (some 0)).isNone = true := by
  cases c : SetTable.layClean.free mask owner (SetTable.turns mask) i pert with
  | some j' => exact ⟨j', rfl, free_some _ _ _ hi c⟩
  | none =>
    obtain ⟨m, hm, e⟩ := leaps_all h (p := (i, pert)) (Nat.lt_succ_of_le hi) hp (Nat.lt_succ_of_le hj)
    have := free_none _ _ _ hi c m hm
    rw [e, hn] at this
    cases this

/-! ### a table laid anew holds all its elements -/
theorem fm_set {α : Type} : ∀ {l : List (Option α)} {j : Nat} {k : α}, l[j]? = some none → ((l.set j (some k)).filterMap id).Perm (k :: l.filterMap id)
  | [], j, _, h => by simp at h
  | a :: r, 0, k, h => by
    obtain rfl : a = none := Option.some.inj h
    rw [List.set_cons_zero, List.filterMap_cons, List.filterMap_cons]
    exact List.Perm.refl _
  | a :: r, j + 1, k, h => by
    have ih := fm_set (l := r) (j := j) (k := k) (by simpa using h)
    rw [List.set_cons_succ, List.filterMap_cons, List.filterMap_cons]
    cases a with
    | none => exact ih
    | some x => exact (ih.cons x).trans (List.Perm.swap _ _ _)
theorem fm_free {α : Type} : ∀ {l : List (Option α)}, (l.filterMap id).length < l.length → ∃ j, j < l.length ∧ l[j]? = some none
  | [], h => by simp at h
  | none :: r, _ => ⟨0, by simp, rfl⟩
  | some x :: r, h => by
    rw [List.filterMap_cons] at h
    obtain ⟨j, h1, h2⟩ := fm_free (l := r) (by simpa using h)
    exact ⟨j + 1, by simpa using h1, by simpa using h2⟩
theorem range_getD {α : Type} {a : Array (Option α)} : (List.range a.size).map (fun j => a.getD j none) = a.toList := by
  refine List.ext_getElem? fun i => ?_
  rw [List.getElem?_map]
  by_cases h : i < a.size
  · rw [List.getElem?_range h]
    simp [h]
  · rw [List.getElem?_eq_none (by simp; omega), List.getElem?_eq_none (by simp; omega)]
    rfl
theorem bits_lt (h : Int) : SetTable.bits h < 2 ^ 64 := by
  unfold SetTable.bits
  have h1 := Int.emod_nonneg h (show (2 ^ 64 : Int) ≠ 0 by decide)
  have h2 := Int.emod_lt_of_pos h (show (0 : Int) < 2 ^ 64 by decide)
  omega
theorem getD_none {a : Array (Option Nat)} {j : Nat} : (a.getD j (some 0)).isNone = true ↔ a.toList[j]? = some none := by
  rw [Array.getD_eq_getD_getElem?, Array.getElem?_toList]
  cases a[j]? with
  | none => simp
  | some x => simp
/-- how the table is laid, hash by hash -/
def layStep (mask : Nat) (acc : Option (Array (Option Nat) × Nat)) (h : Int) : Option (Array (Option Nat) × Nat) := do
  let (owner, k) ← acc
  let j ← SetTable.layClean.free mask owner (SetTable.turns mask) (SetTable.bits h % (mask + 1)) (SetTable.bits h)
  pure (owner.setIfInBounds j (some k), k + 1)
theorem lay_fold {mask : Nat} (hg : goodN (mask + 1) = true) : ∀ (hs : List Int) (owner : Array (Option Nat)) (k : Nat), owner.size = mask + 1 → (owner.toList.filterMap id).Perm (List.range k) → k + hs.length ≤ mask →
    ∃ owner', hs.foldl (layStep mask) (some (owner, k)) = some (owner', k + hs.length) ∧ owner'.size = mask + 1 ∧ (owner'.toList.filterMap id).Perm (List.range (k + hs.length))
  | [], owner, k, h1, h2, _ => ⟨owner, rfl, h1, h2⟩
  | h :: hs, owner, k, h1, h2, h3 => by
    rw [List.length_cons] at h3
    obtain ⟨j, hj1, hj2⟩ := fm_free (l := owner.toList) (by rw [h2.length_eq, List.length_range, Array.length_toList, h1]; omega)
    rw [Array.length_toList, h1] at hj1
    obtain ⟨j', e, hj', hn'⟩ := free_is (mask := mask) (owner := owner) hg (i := SetTable.bits h % (mask + 1)) (pert := SetTable.bits h) (Nat.le_of_lt_succ (Nat.mod_lt _ (Nat.succ_pos _))) (bits_lt h) (Nat.le_of_lt_succ hj1) (getD_none.mpr hj2)
    have step : layStep mask (some (owner, k)) h = some (owner.setIfInBounds j' (some k), k + 1) := by
      unfold layStep
      show (do let j ← SetTable.layClean.free mask owner _ _ _; pure _ : Option _) = _
      rw [e]
      rfl
    obtain ⟨owner', f1, f2, f3⟩ := lay_fold hg hs (owner.setIfInBounds j' (some k)) (k + 1) (by rw [Array.size_setIfInBounds, h1]) (by
      rw [Array.toList_setIfInBounds]
      refine (fm_set (getD_none.mp hn')).trans ?_
      rw [List.range_succ]
      exact (h2.cons k).trans (List.perm_append_comm (l₁ := [k]) (l₂ := List.range k))) (by omega)
    refine ⟨owner', ?_, f2, ?_⟩
    · rw [List.foldl_cons, step, f1, List.length_cons]
      congr 2
      omega
    · rw [List.length_cons, show k + (hs.length + 1) = k + 1 + hs.length by omega]
      exact f3
theorem laid_ok {mask finger moves : Nat} {led plain : Bool} {hs : Array Int} (hg : goodN (mask + 1) = true) (hl : hs.size ≤ mask) :
    ∃ t order, SetTable.laid mask finger moves led plain hs = some (t, order) ∧ order.toList.Perm (List.range hs.size) ∧ t.mask = mask ∧ t.place.size = hs.size ∧ t.dummies = #[] ∧ t.finger = finger ∧ t.led = led ∧ t.plain = plain ∧ L2.Ris t.place.toList := by
  obtain ⟨owner, h1, h2, h3⟩ := lay_fold hg hs.toList (Array.replicate (mask + 1) none) 0 (Array.size_replicate ..) (by
    have : ∀ n, ((List.replicate n (none : Option Nat)).filterMap id) = [] := fun n => by
      induction n with
      | zero => rfl
      | succ n ih => rw [List.replicate_succ, List.filterMap_cons]; exact ih
    rw [Array.toList_replicate, this]
    exact List.Perm.refl _) (by simpa using hl)
  rw [Nat.zero_add, Array.length_toList] at h1 h3
  have hc : SetTable.layClean mask hs = some owner := by
    unfold SetTable.layClean
    show (Array.foldl (layStep mask) (some (Array.replicate (mask + 1) none, 0)) hs).map (·.1) = _
    rw [← Array.foldl_toList, h1]
    rfl
  have ho : ((List.range (mask + 1)).filterMap fun j => (owner.getD j none).map (j, ·)).map (·.2) = owner.toList.filterMap id := by
    rw [← range_getD, h2, List.map_filterMap, List.filterMap_map]
    congr 1
    funext j
    show Option.map _ (Option.map _ _) = _
    rw [Option.map_map]
    show Option.map (fun x => x) _ = owner.getD j none
    cases owner.getD j none <;> rfl
  refine ⟨_, _, by unfold SetTable.laid; rw [hc]; rfl, ?_, rfl, ?_, rfl, rfl, rfl, rfl, (L2.ris_live (fun j => owner.getD j none) (List.range (mask + 1)) (by unfold L2.Ris; first | exact List.pairwise_lt_range | exact List.pairwise_lt_range _)).1⟩
  · rw [ho]
    exact h3
  · have := congrArg List.length ho
    rw [List.length_map, h3.length_eq, List.length_range] at this
    show ((List.map _ _).toArray).size = _
    rw [List.size_toArray, List.length_map, this]
/-- all the elements, in another order -/
theorem order_perm {α : Type} {es : Array α} {order : Array Nat} (h : order.toList.Perm (List.range es.size)) : (order.filterMap (es[·]?)).toList.Perm es.toList := by
  rw [Array.toList_filterMap]
  refine (h.filterMap _).trans ?_
  have : ∀ l : List α, (List.range l.length).filterMap (l[·]?) = l := fun l => by
    induction l with
    | nil => rfl
    | cons a r ih =>
      rw [List.length_cons, List.range_succ_eq_map, List.filterMap_cons, List.filterMap_map]
      show a :: _ = _
      congr 1
  have e := this es.toList
  rw [Array.length_toList] at e
  have e2 : (fun x : Nat => es[x]?) = fun x : Nat => es.toList[x]? := by funext x; rw [Array.getElem?_toList]
  rw [e2, e]

/-! ### a set of scannable keys, its table kept walkable -/
section
variable {prog : Program} {w : World} {κ : Type} [DecidableEq κ] (knd : KeyKind prog w κ)
def GoodT (S : κ → Bool) (n : Nat) (es : Array (Int × Value)) (t : SetTable) : Prop :=
  ElemsOf knd es.toList ∧ (∀ k, S k = true ↔ ∃ e ∈ es.toList, knd.is k e.2 = true) ∧ es.size < scanBound ∧ t.fits es.size = true ∧ es.size = n ∧ L2.Ris t.place.toList ∧ (w.params.followText "set-order" = true ∨ t.led = true)
def TSet (h : Heap) (a : Addr) (S : κ → Bool) (n : Nat) : Prop := ∃ o es ep t, h.get? a = some o ∧ o.ExactSet ∧ o.data = .set es ep t ∧ GoodT knd S n es t
variable {knd} {A : Around} {E : Value → Shared → Prop} {s : Shared} {a : Addr} {S : κ → Bool} {n : Nat}
theorem GoodT.perm {es es' : Array (Int × Value)} {t t' : SetTable} (h : GoodT knd S n es t) (p : es'.toList.Perm es.toList) (hf : t'.fits es'.size = true) (hr : L2.Ris t'.place.toList) (hl : t.led = true → t'.led = true) : GoodT knd S n es' t' := by
  obtain ⟨h1, h2, h3, h4, h5, h6, h7⟩ := h
  have hz : es'.size = es.size := by rw [← Array.length_toList, p.length_eq, Array.length_toList]
  exact ⟨h1.perm p, fun k => (h2 k).trans ⟨fun ⟨e, he, q⟩ => ⟨e, p.mem_iff.mpr he, q⟩, fun ⟨e, he, q⟩ => ⟨e, p.mem_iff.mp he, q⟩⟩, by rw [hz]; exact h3, hf, by rw [hz]; exact h5, hr, h7.imp id hl⟩
theorem tset_store {h : Heap} {o : Obj} {es es' : Array (Int × Value)} {ep : Nat} {t t' : SetTable} (ho : h.get? a = some o) (hex : o.ExactSet) (hd : o.data = .set es ep t) (g : GoodT knd S n es' t') :
    (h.update a (Obj.putSet es' t')).get? a = some { o with data := .set es' (ep + 1) t' } ∧ TSet knd (h.update a (Obj.putSet es' t')) a S n := by
  have hg : (h.update a (Obj.putSet es' t')).get? a = some { o with data := .set es' (ep + 1) t' } := by
    have := Heap.get?_update_self (Obj.putSet es' t') ho (by rw [putSet_of es' t' hd]; rfl)
    rw [putSet_of es' t' hd] at this
    exact this
  exact ⟨hg, _, es', ep + 1, t', hg, hex, rfl, g⟩
theorem GoodT.push {es es1 : Array (Int × Value)} {t t1 : SetTable} {k : κ} {x : Value} (h : GoodT knd S n es t) (hk : knd.is k x = true) (hx : x.scannable = true) (hroom : n + 1 < scanBound)
    (p : es1.toList.Perm (es.toList ++ [(knd.hash k, x)])) (hf : t1.fits es1.size = true) (hr : L2.Ris t1.place.toList) (hl : t1.led = t.led) : GoodT knd (fun k' => S k' || decide (k' = k)) (n + 1) es1 t1 := by
  obtain ⟨h1, h2, h3, h4, h5, h6, h7⟩ := h
  have hz : es1.size = n + 1 := by rw [← Array.length_toList, p.length_eq, List.length_append, Array.length_toList, h5]; rfl
  exact ⟨(h1.push hk hx).perm p, mem_push_iff hk h2 p, by rw [hz]; exact hroom, hf, hz, hr, h7.imp id fun z => by rw [hl]; exact z⟩
theorem GoodT.plainOff {es : Array (Int × Value)} {t : SetTable} (h : GoodT knd S n es t) : GoodT knd S n es { t with plain := false } := h.perm (List.Perm.refl _) (SetTable.fits_plain_off h.2.2.2.1) h.2.2.2.2.2.1 id
theorem GoodT.relay {es : Array (Int × Value)} {t : SetTable} (m : Nat) (h : GoodT knd S n es t) : GoodT knd S n (relayAll t es m).1 (relayAll t es m).2.1 :=
  h.perm (relayAll_perm t es m) (relayAll_fits t es m) (L2.relayAll_ris t es m) fun z => by rw [L2.relayAll_led]; exact z
theorem tset_tail {g : Bool → Sem Unit} (hg : ∀ (b : Bool) (s₁ : Shared) (Q' : Unit → Shared → Prop), Q' () s₁ → wpAny (model prog w) A (g b) Q' E s₁) {o : Obj} {es es1 : Array (Int × Value)} {ep : Nat} {t t2 : SetTable}
    (ho : s.heap.get? a = some o) (hex : o.ExactSet) (hd : o.data = .set es ep t) (gd : GoodT knd S n es1 t2) {wasDummy : Bool} {R : Option Bool → Shared → Prop}
    (h : ∀ h', Heap.SameBut a s.heap h' → TSet knd h' a S n → R (some true) { s with heap := h' }) :
    wpAny (model prog w) A (do
        storeSet a es1 t2
        if (!wasDummy && t2.tooFull) = true then do
            g (relayAll t2 es1 (SetTable.grown es1.size)).2.2
            storeSet a (relayAll t2 es1 (SetTable.grown es1.size)).1 (relayAll t2 es1 (SetTable.grown es1.size)).2.1
            pure (some true)
          else pure (some true)) R E s := by
  refine wpAny_bind (wpAny_storeSet_of ho hd ?_ (fits_of_scanBound gd.2.2.1))
  obtain ⟨ho1, hT⟩ := tset_store ho hex hd gd
  have sb := Heap.SameBut.update s.heap a (Obj.putSet es1 t2)
  split
  · have g2 := gd.relay (SetTable.grown es1.size)
    refine wpAny_bind (hg _ _ _ ?_)
    refine wpAny_bind (wpAny_storeSet_of ho1 rfl ?_ (fits_of_scanBound g2.2.2.1))
    exact wpAny_pure (h _ (sb.trans (Heap.SameBut.update _ a _)) (tset_store ho1 hex rfl g2).2)
  · exact wpAny_pure (h _ sb hT)
theorem tset_add {k : κ} {x : Value} {Q : Bool → Shared → Prop} (hk : knd.is k x = true) (hx : x.scannable = true) (R : TSet knd s.heap a S n) (hroom : n + 1 < scanBound)
    (h : ∀ b h' n', Heap.SameBut a s.heap h' → n' ≤ n + 1 → TSet knd h' a (fun k' => S k' || decide (k' = k)) n' → Q b { s with heap := h' }) :
    wpAny (model prog w) A (setAddHashed a x (knd.hash k)) Q E s := by
  obtain ⟨o, es, ep, t, ho, hex, hd, gd⟩ := R
  obtain ⟨hel, hmem, hb, hf, hn, hr, hl⟩ := id gd
  unfold setAddHashed setAddHashedIn
  refine wpAny_holding (wpAny_bind (wpAny_setState_of ho hd hf ?_))
  dsimp only
  rw [byScan_of hx hb hel]
  simp only [↓reduceIte]
  unfold setAddByScan
  refine wpAny_bind (wpAny_bind (wpAny_rule (wpAny_bind (wpAny_setScan_of hk ho hd hf hel ?_))))
  cases hi : List.findIdx? (fun e => knd.is k e.2) es.toList with
  | some j =>
    dsimp only
    obtain ⟨hj, hpj, _⟩ := List.findIdx?_eq_some_iff_getElem.mp hi
    have hSk : S k = true := (hmem k).mpr ⟨es.toList[j], List.getElem_mem hj, hpj⟩
    have same : (fun k' => S k' || decide (k' = k)) = S := by
      funext k'
      by_cases c : k' = k
      · rw [c, hSk]; rfl
      · rw [decide_eq_false c, Bool.or_false]
    refine wpAny_pure (wpAny_pure ?_)
    have := h false s.heap n (Heap.SameBut.refl a s.heap) (Nat.le_succ _) (by rw [same]; exact ⟨o, es, ep, t, ho, hex, hd, gd⟩)
    exact this
  | none =>
    dsimp only
    have gw : ∀ (b : Bool) {s₁ : Shared} {Q' : Unit → Shared → Prop}, Q' () s₁ → wpAny (model prog w) A (match b with | true => rule "set.scan.the-table-gave-way" | false => pure ()) Q' E s₁ :=
      fun b s₁ Q' q => by cases b <;> first | exact wpAny_pure q | exact wpAny_rule q
    have pm := layNew_perm t es (knd.hash k) x
    have hf1 := layNew_fits t es (knd.hash k) x
    have hr1 := L2.layNew_ris t es (knd.hash k) x hr
    have hl1 := L2.layNew_led t es (knd.hash k) x
    generalize layNew t es (knd.hash k) x = Z at pm hf1 hr1 hl1 ⊢
    obtain ⟨es1, t1, wasDummy, gave⟩ := Z
    dsimp only at pm hf1 hr1 hl1 ⊢
    rw [Array.toList_push] at pm
    have g1 := gd.push hk hx hroom pm hf1 hr1 hl1
    refine wpAny_bind (gw _ ?_)
    split
    · refine wpAny_bind ?_
      rw [hashByValue_scannable 8 hx]
      refine wpAny_pure ?_
      refine tset_tail (knd := knd) (S := fun k' => S k' || decide (k' = k)) (n := n + 1) (fun b s₁ Q' q => by cases b <;> first | exact wpAny_pure q | exact wpAny_rule q) ho hex hd ?_ fun h' sb r => ?_
      · split
        · exact g1
        · exact g1.plainOff
      · dsimp only
        exact wpAny_pure (h true h' (n + 1) sb (Nat.le_refl _) r)
    · refine wpAny_bind (wpAny_pure ?_)
      simp only [↓reduceIte]
      refine tset_tail (knd := knd) (S := fun k' => S k' || decide (k' = k)) (n := n + 1) (fun b s₁ Q' q => by cases b <;> first | exact wpAny_pure q | exact wpAny_rule q) ho hex hd g1 fun h' sb r => ?_
      dsimp only
      exact wpAny_pure (h true h' (n + 1) sb (Nat.le_refl _) r)
end

/-! ### room in a set -/
theorem above_ok : ∀ n < 2048, SetTable.sizeAbove n ∈ [8, 16, 32, 64, 128, 256, 512, 1024, 2048] ∧ n < SetTable.sizeAbove n := by decide +kernel
theorem above_good {n : Nat} (h : n < 2048) : goodN (SetTable.sizeAbove n - 1 + 1) = true ∧ n ≤ SetTable.sizeAbove n - 1 ∧ SetTable.sizeAbove n ≤ 2048 := by
  obtain ⟨h1, h2⟩ := above_ok n h
  have h3 : SetTable.sizeAbove n - 1 + 1 = SetTable.sizeAbove n := by omega
  refine ⟨by rw [h3]; exact good_sizes _ h1, by omega, ?_⟩
  simp only [List.mem_cons, List.not_mem_nil, or_false] at h1
  omega
section
variable {prog : Program} {w : World} {κ : Type} [DecidableEq κ] {knd : KeyKind prog w κ} {A : Around} {E : Value → Shared → Prop} {s : Shared} {a : Addr} {S : κ → Bool} {n : Nat}
theorem set_relay {wanted : Nat} {Q : Unit → Shared → Prop} {o : Obj} {es : Array (Int × Value)} {ep : Nat} {t : SetTable} (ho : s.heap.get? a = some o) (hex : o.ExactSet) (hd : o.data = .set es ep t) (g : GoodT knd S n es t) (hw : n ≤ wanted) (hb : wanted < 2048)
    (k : ∀ h' es' t', Heap.SameBut a s.heap h' → h'.get? a = some { o with data := .set es' (ep + 1) t' } → GoodT knd S n es' t' → t'.mask = SetTable.sizeAbove wanted - 1 → t'.dummies = #[] → Q () { s with heap := h' }) :
    wpAny (model prog w) A (setRelay a wanted) Q E s := by
  obtain ⟨hel, hmem, hbd, hf, hn, hr, hl⟩ := id g
  obtain ⟨a1, a2, a3⟩ := above_good hb
  obtain ⟨t', order, e1, e2, e3, e4, e5, e6, e7, e8, e9⟩ := laid_ok (mask := SetTable.sizeAbove wanted - 1) (finger := t.finger) (moves := t.movedTo (SetTable.sizeAbove wanted - 1)) (led := t.led) (plain := t.plain) (hs := es.map (·.1)) a1 (by rw [Array.size_map]; omega)
  rw [Array.size_map] at e2 e4
  have hrl : t.relaid (es.map (·.1)) wanted = some (t', order) := e1
  have hp := order_perm (es := es) e2
  have hz : (order.filterMap (es[·]?)).size = es.size := by rw [← Array.length_toList, hp.length_eq, Array.length_toList]
  have g' : GoodT knd S n (order.filterMap (es[·]?)) t' := g.perm hp (by
    unfold SetTable.fits SetTable.fill
    rw [e4, hz, e5, e3, Bool.and_eq_true, beq_iff_eq, decide_eq_true_eq]
    exact ⟨rfl, by show es.size + 0 ≤ _; omega⟩) (L2.relaid_ris hrl).1 fun z => by rw [(L2.relaid_ris hrl).2]; exact z
  unfold setRelay
  refine wpAny_bind (wpAny_setState_of ho hd hf ?_)
  dsimp only
  rw [if_neg (by rw [sizeLine_eq]; omega)]
  rw [hrl]
  refine wpAny_bind ?_
  show wpAny _ _ (@ite (Sem (Array (Int × Value) × SetTable)) (((order.filterMap (es[·]?)).size != es.size) = true) _ _ _) _ _ _
  rw [if_neg (by rw [hz]; simp)]
  refine wpAny_pure ?_
  refine wpAny_storeSet_of ho hd ?_ (fits_of_scanBound g'.2.2.1)
  have st := tset_store ho hex hd g'
  exact k _ _ _ (Heap.SameBut.update s.heap a _) st.1 g' e3 e5
theorem tset_room {more : Nat} {Q : Unit → Shared → Prop} (R : TSet knd s.heap a S n) (hb : (n + more) * 2 < 2048) (k : ∀ h', Heap.SameBut a s.heap h' → TSet knd h' a S n → Q () { s with heap := h' }) : wpAny (model prog w) A (setRoomFor a more) Q E s := by
  obtain ⟨o, es, ep, t, ho, hex, hd, g⟩ := R
  obtain ⟨hel, hmem, hbd, hf, hn, hr, hl⟩ := id g
  have hps : t.place.size = n := by
    unfold SetTable.fits at hf
    rw [Bool.and_eq_true, beq_iff_eq] at hf
    rw [hf.1, hn]
  unfold setRoomFor
  refine wpAny_bind (wpAny_setState_of ho hd hf ?_)
  dsimp only
  unfold SetTable.roomFor
  by_cases c : (t.fill + more) * 5 ≥ t.mask * 3
  · rw [if_pos c, hps]
    dsimp only
    exact set_relay ho hex hd g (by omega) hb fun h' es' t' sb hg g' _ _ => k h' sb ⟨_, es', ep + 1, t', hg, hex, rfl, g'⟩
  · rw [if_neg c]
    exact wpAny_pure (k s.heap (Heap.SameBut.refl a s.heap) ⟨o, es, ep, t, ho, hex, hd, g⟩)
end

/-! ### a set takes a dict's keys -/
section
variable {prog : Program} {w : World} {κ : Type} [DecidableEq κ] {knd : KeyKind prog w κ} {A : Around} {E : Value → Shared → Prop} {s : Shared} {a d : Addr} {S : κ → Bool} {n : Nat}
theorem TSet.cast {h : Heap} {S' : κ → Bool} (R : TSet knd h a S n) (e : ∀ k, S' k = S k) : TSet knd h a S' n := by
  have : S' = S := funext e
  rw [this]
  exact R
theorem upd_loop {nm : String} {od : Obj} {es : Array DictEntry} {ep : Nat} {Q : Unit → Shared → Prop} (R : TSet knd s.heap a S n) (hne : d ≠ a) (hod : s.heap.get? d = some od) (hdd : od.data = .dict es ep)
    (hk : ∀ e ∈ es.toList, ∃ k, knd.is k e.key = true ∧ e.hash = knd.hash k ∧ e.key.scannable = true) (hb : n + es.size + 1 < scanBound)
    (k : ∀ h' n', Heap.SameBut a s.heap h' → n' ≤ n + es.size → TSet knd h' a (fun j => S j || es.toList.any fun e => knd.is j e.key) n' → Q () { s with heap := h' }) :
    wpAny (model prog w) A (forIn [:es.size] PUnit.unit fun i (_ : PUnit) => (do
          let l' ← dictEntries d
          match l'[i]? with
            | some e => do
              let _ ← holding [e.key] (setAddHashed a e.key e.hash)
              let ep' ← dictEpoch d
              if (ep' != ep) = true then do
                  (unsupported (toString nm ++ toString ":changed-during-callback") : Sem PUnit)
                  pure (ForInStep.yield PUnit.unit)
                else pure (ForInStep.yield PUnit.unit)
            | _ => do
              (unsupported "internal:set-from-dict" : Sem PUnit)
              pure (ForInStep.yield PUnit.unit) : Sem (ForInStep PUnit))) Q E s := by
  rw [Std.Legacy.Range.forIn_eq_forIn_range']
  simp only [Std.Legacy.Range.size, Nat.sub_zero, Nat.add_sub_cancel, Nat.div_one]
  refine wpAny_forIn_list _
    (fun rest _ s' => ∃ h' i n', s' = { s with heap := h' } ∧ rest = List.range' i (es.size - i) ∧ i ≤ es.size ∧ Heap.SameBut a s.heap h' ∧ n' ≤ n + i ∧ TSet knd h' a (fun j => S j || (es.toList.take i).any fun e => knd.is j e.key) n')
    _ ?_ ?_ _ _ ⟨s.heap, 0, n, rfl, by simp, Nat.zero_le _, Heap.SameBut.refl _ _, Nat.le_refl _, R.cast fun j => by simp⟩
  · rintro x rest b s' ⟨h', i, n', rfl, hr, hi, sb, hn, R'⟩
    have hlt : i < es.size := by
      rcases Nat.lt_or_ge i es.size with h | h
      · exact h
      · rw [Nat.sub_eq_zero_of_le h] at hr
        simp at hr
    have e : es.size - i = (es.size - (i + 1)) + 1 := by omega
    rw [e, List.range'_succ] at hr
    injection hr with h1 h2
    subst h1
    have hod' : h'.get? d = some od := (sb.2 d hne).trans hod
    refine wpAny_bind (wpAny_dictEntries hod' hdd ?_)
    rw [Array.getElem?_eq_getElem hlt]
    obtain ⟨kk, k1, k2, k3⟩ := hk es[x] (by rw [← Array.getElem_toList]; exact List.getElem_mem _)
    show wpAny _ _ (holding [es[x].key] (setAddHashed a es[x].key es[x].hash) >>= _) _ _ _
    rw [k2]
    refine wpAny_bind (wpAny_holding (tset_add (s := { s with heap := h' }) k1 k3 R' (by omega) fun b h'' n'' sb' hn' R'' => ?_))
    have hod'' : h''.get? d = some od := (sb'.2 d hne).trans hod'
    refine wpAny_bind (wpAny_dictEpoch hod'' hdd ?_)
    rw [if_neg (by simp)]
    refine wpAny_pure ⟨h'', x + 1, n'', rfl, h2, hlt, sb.trans sb', by omega, R''.cast fun j => ?_⟩
    have ht : es.toList.take (x + 1) = es.toList.take x ++ [es[x]] := by
      rw [List.take_succ, Array.getElem?_toList, Array.getElem?_eq_getElem hlt]
      rfl
    have hj : knd.is j es[x].key = decide (j = kk) := KeyKind.is_eq_decide k1 j
    rw [ht, List.any_append, List.any_cons, List.any_nil, Bool.or_false, hj, Bool.or_assoc]
  · rintro b s' ⟨h', i, n', rfl, hr, hi, sb, hn, R'⟩
    have hin : i = es.size := by
      rcases Nat.lt_or_ge i es.size with h | h
      · have e : es.size - i = (es.size - (i + 1)) + 1 := by omega
        rw [e, List.range'_succ] at hr
        exact nomatch hr
      · exact Nat.le_antisymm hi h
    subst hin
    refine k h' n' sb hn (R'.cast fun j => ?_)
    rw [List.take_of_length_le (by simp)]
end

section
variable {prog : Program} {w : World} {κ : Type} [DecidableEq κ] {knd : KeyKind prog w κ} {A : Around} {E : Value → Shared → Prop} {s : Shared} {a d : Addr} {S : κ → Bool} {n : Nat}
theorem any_set {v : Value} {T : String} {b : Bool} {Q : Bool → Shared → Prop} (hT : s.TypeIs v T) (h1 : isSubtype (.type T) (.type "set") = pure b) (h2 : b = false → isSubtype (.type T) (.type "frozenset") = pure false) (h : Q b s) : wpAny (model prog w) A (Builtin.Frozenset.isAnySet v) Q E s := by
  unfold Builtin.Frozenset.isAnySet orM
  refine wpAny_bind (wpAny_isInstance hT h1 ?_)
  cases b with
  | true => exact wpAny_pure h
  | false => exact wpAny_isInstance hT (h2 rfl) h
theorem upd_dict {nm : String} {od : Obj} {es : Array DictEntry} {ep : Nat} {Q : Unit → Shared → Prop} (R : TSet knd s.heap a S n) (hne : d ≠ a) (lo : (d == sysModules) = false) (hod : s.heap.get? d = some od) (hc : od.cls = .type "dict") (hdd : od.data = .dict es ep)
    (hk : ∀ e ∈ es.toList, ∃ k, knd.is k e.key = true ∧ e.hash = knd.hash k ∧ e.key.scannable = true) (hb : (n + es.size) * 2 < 2048)
    (k : ∀ h' n', Heap.SameBut a s.heap h' → n' ≤ n + es.size → TSet knd h' a (fun j => S j || es.toList.any fun e => knd.is j e.key) n' → Q () { s with heap := h' }) :
    wpAny (model prog w) A (Builtin.Frozenset.updateFrom nm a (.ref d)) Q E s := by
  have hT : s.TypeIs (.ref d) "dict" := ⟨od, hod, hc⟩
  unfold Builtin.Frozenset.updateFrom
  refine wpAny_bind (any_set hT F.sub_dict_set (fun _ => F.sub_dict_frozenset) ?_)
  simp only [Bool.false_eq_true, if_false]
  refine wpAny_bind (wpAny_typeOf hT ?_)
  rw [if_pos (by decide)]
  refine wpAny_bind (wpAny_rule ?_)
  unfold Builtin.Frozenset.addrOf
  refine wpAny_bind (wpAny_pure ?_)
  rw [if_neg (by rw [lo]; exact Bool.false_ne_true)]
  refine wpAny_bind (wpAny_dictEpoch hod hdd ?_)
  refine wpAny_bind (wpAny_dictEntries hod hdd ?_)
  refine wpAny_bind (tset_room R hb fun h1 sb1 R1 => ?_)
  have hod1 : h1.get? d = some od := (sb1.2 d hne).trans hod
  refine wpAny_bind (wpAny_dictEntries (s := { s with heap := h1 }) hod1 hdd ?_)
  refine wpAny_bind ?_
  refine upd_loop (s := { s with heap := h1 }) (nm := nm) R1 hne hod1 hdd hk (by show n + es.size + 1 < 4096; omega) fun h2 n' sb2 hn R2 => ?_
  exact wpAny_pure (k h2 n' (sb1.trans sb2) hn R2)
end

/-! ### a set walked unseen -/
section
variable {prog : Program} {w : World} {κ : Type} [DecidableEq κ] {knd : KeyKind prog w κ} {A : Around} {E : Value → Shared → Prop} {s : Shared} {a b : Addr} {S S' : κ → Bool} {n n' : Nat}
theorem set_walk {Q : Array (Int × Value) → Shared → Prop} {o : Obj} {es : Array (Int × Value)} {ep : Nat} {t : SetTable} (ho : s.heap.get? b = some o) (hd : o.data = .set es ep t) (g : GoodT knd S' n' es t)
    (hc : w.params.followText "set-order" = true ∨ t.plain = true ∨ es.size ≤ 1) (k : ∀ ys : Array (Int × Value), ys.toList.Perm es.toList → Q ys s) : wpAny (model prog w) A (setWalk b) Q E s := by
  obtain ⟨hel, hmem, hbd, hf, hn, hr, hl⟩ := id g
  unfold setWalk
  refine wpAny_bind (wpAny_setState_of ho hd hf ?_)
  dsimp only
  refine wpAny_bind (L2.wpAny_byText ?_)
  cases hbt : w.params.followText "set-order" with
  | true =>
    rw [if_pos rfl]
    refine wpAny_bind (wpAny_askSetting (wpAny_pure (k _ (L2.pick_perm _ _))))
  | false =>
    simp only [Bool.false_eq_true, if_false]
    have hled : t.led = true := hl.resolve_left (by rw [hbt]; exact Bool.false_ne_true)
    have hc' : t.plain = true ∨ es.size ≤ 1 := hc.resolve_left (by rw [hbt]; exact Bool.false_ne_true)
    have h1 : ¬ ((!t.plain && decide (es.size > 1)) = true) := fun z => by
      rw [Bool.and_eq_true] at z
      rcases hc' with h | h
      · rw [h] at z
        exact Bool.false_ne_true z.1
      · have := of_decide_eq_true z.2
        omega
    refine L2.wp_if_neg h1 (wpAny_bind ?_)
    have h2 : ¬ ((!t.led && decide (es.size > 1)) = true) := fun z => by
      rw [hled] at z
      exact Bool.false_ne_true (Bool.and_eq_true_iff.mp z).1
    exact L2.wp_if_neg h2 (wpAny_pure (wpAny_pure (k es (List.Perm.refl _))))
theorem quiet_of {es : Array (Int × Value)} (h : ElemsOf knd es.toList) : ∀ e ∈ es.toList, ∀ r, e.2 ≠ Value.ref r := fun e he r z => by
  have := (h e he).2
  rw [z] at this
  cases this
theorem forIn_still {α β : Type} : ∀ {l : List α} {f : α → β → Sem (ForInStep β)} {c : β}, (∀ x ∈ l, f x c = pure (.yield c)) → forIn l c f = pure c
  | [], _, _, _ => by rw [List.forIn_nil]
  | x :: l, f, c, h => by
    rw [List.forIn_cons, h x List.mem_cons_self, pure_bind]
    exact forIn_still fun y hy => h y (List.mem_cons_of_mem _ hy)
theorem sets_quiet {Q : Bool → Shared → Prop} {o o' : Obj} {es es' : Array (Int × Value)} {ep ep' : Nat} {t t' : SetTable} (ho : s.heap.get? b = some o) (hd : o.data = .set es ep t) (hf : t.fits es.size = true) (h1 : ∀ e ∈ es.toList, ∀ r, e.2 ≠ Value.ref r)
    (ho' : s.heap.get? a = some o') (hd' : o'.data = .set es' ep' t') (hf' : t'.fits es'.size = true) (h2 : ∀ e ∈ es'.toList, ∀ r, e.2 ≠ Value.ref r) (k : Q true s) : wpAny (model prog w) A (setsQuiet [b, a]) Q E s := by
  unfold setsQuiet setEntries
  simp only [bind_assoc, pure_bind]
  have inner : ∀ {es : Array (Int × Value)}, (∀ e ∈ es.toList, ∀ r, e.2 ≠ Value.ref r) → ∀ {f : Int × Value → Option Bool × Unit → Sem (ForInStep (Option Bool × Unit))}, (∀ e, (∀ r, e.2 ≠ Value.ref r) → f e (none, ()) = pure (.yield (none, ()))) → forIn es (none, ()) f = pure (none, ()) := fun {es} h {f} hf => by
    rw [← Array.forIn_toList]
    exact forIn_still fun e he => hf e (h e he)
  have hy : ∀ (e : Int × Value), (∀ r, e.2 ≠ Value.ref r) → (match e.2 with
      | Value.ref a => do
        let __do_lift ← specialOf e.2 (Str.ofString "__eq__")
        if (__do_lift != some (Value.builtin "object.__eq__")) = true then pure (ForInStep.done (some false, ()))
          else pure (ForInStep.yield (none, ()))
      | x => (pure (ForInStep.yield (none, ())) : Sem (ForInStep (Option Bool × Unit)))) = pure (ForInStep.yield (none, ())) := fun e he => by
    cases h : e.2 with
    | ref r => exact absurd h (he r)
    | _ => rfl
  refine wpAny_bind ?_
  rw [List.forIn_cons]
  refine wpAny_bind (wpAny_bind (wpAny_setState_of ho hd hf ?_))
  dsimp only
  rw [inner h1 fun e he => hy e he]
  refine wpAny_bind (wpAny_pure (wpAny_pure ?_))
  dsimp only
  rw [List.forIn_cons]
  refine wpAny_bind (wpAny_bind (wpAny_setState_of ho' hd' hf' ?_))
  dsimp only
  rw [inner h2 fun e he => hy e he]
  refine wpAny_bind (wpAny_pure (wpAny_pure ?_))
  dsimp only
  rw [List.forIn_nil]
  exact wpAny_pure (wpAny_pure k)
theorem walk_unseen {Q : Array (Int × Value) → Shared → Prop} {o : Obj} {es : Array (Int × Value)} {ep : Nat} {t : SetTable} (ho : s.heap.get? b = some o) (hd : o.data = .set es ep t) (g : GoodT knd S' n' es t) (R : TSet knd s.heap a S n) (hne : b ≠ a)
    (k : ∀ h' (ys : Array (Int × Value)), Heap.SameBut a s.heap h' → TSet knd h' a S n → ys.toList.Perm es.toList → Q ys { s with heap := h' }) : wpAny (model prog w) A (setWalkUnseen b [a] (some a)) Q E s := by
  obtain ⟨hel, hmem, hbd, hf, hn, hr, hl⟩ := id g
  unfold setWalkUnseen
  refine wpAny_bind (wpAny_setState_of ho hd hf ?_)
  dsimp only
  refine wpAny_bind (L2.wpAny_byText ?_)
  by_cases c : (w.params.followText "set-order" || (t.led && t.plain) || decide (es.size ≤ 1)) = true
  · rw [if_pos c]
    refine set_walk ho hd g ?_ fun ys hp => k s.heap ys (Heap.SameBut.refl _ _) R hp
    rw [Bool.or_eq_true, Bool.or_eq_true, Bool.and_eq_true] at c
    rcases c with (c | c) | c
    · exact .inl c
    · exact .inr (.inl c.2)
    · exact .inr (.inr (of_decide_eq_true c))
  · rw [if_neg c]
    have hbt : w.params.followText "set-order" = false := by
      cases z : w.params.followText "set-order" with
      | false => rfl
      | true => rw [z] at c; exact absurd rfl c
    have hled : t.led = true := hl.resolve_left (by rw [hbt]; exact Bool.false_ne_true)
    obtain ⟨o', es', ep', t', ho', hex', hd', g'⟩ := id R
    refine wpAny_bind (sets_quiet ho hd hf (quiet_of hel) ho' hd' g'.2.2.2.1 (quiet_of g'.1) ?_)
    rw [if_neg (by simp)]
    refine wpAny_bind (wpAny_rule (wpAny_bind (wpAny_setState_of ho' hd' g'.2.2.2.1 ?_)))
    dsimp only
    split
    · have g2 : GoodT knd S n es' { t' with led := t'.led && t.led, plain := t'.plain && t.plain } := g'.perm (List.Perm.refl _) g'.2.2.2.1 g'.2.2.2.2.2.1 fun z => by rw [z, hled]; rfl
      refine wpAny_bind (wpAny_storeSet_of ho' hd' ?_ (fits_of_scanBound g2.2.2.1))
      exact wpAny_pure (k _ es (Heap.SameBut.update s.heap a _) (tset_store ho' hex' hd' g2).2 (List.Perm.refl _))
    · exact wpAny_pure (k s.heap es (Heap.SameBut.refl _ _) R (List.Perm.refl _))
end

/-! ### a set takes another one's keys -/
section
variable {prog : Program} {w : World} {κ : Type} [DecidableEq κ] {knd : KeyKind prog w κ} {A : Around} {E : Value → Shared → Prop} {s : Shared} {a b : Addr} {S S' : κ → Bool} {n n' : Nat}
theorem any_is {es : List (Int × Value)} (hm : ∀ k, S' k = true ↔ ∃ e ∈ es, knd.is k e.2 = true) {ys : List (Int × Value)} (p : ys.Perm es) (j : κ) : (ys.any fun e => knd.is j e.2) = S' j := by
  rw [Bool.eq_iff_iff, List.any_eq_true, hm]
  exact ⟨fun ⟨e, h1, h2⟩ => ⟨e, p.mem_iff.mp h1, h2⟩, fun ⟨e, h1, h2⟩ => ⟨e, p.mem_iff.mpr h1, h2⟩⟩
theorem merge_more {each : Sem Unit} {Q : Unit → Shared → Prop} {o : Obj} {es : Array (Int × Value)} {ep : Nat} {t : SetTable} (ho : s.heap.get? b = some o) (hd : o.data = .set es ep t) (g : GoodT knd S' n' es t) (R : TSet knd s.heap a S n) (hne : b ≠ a) (h1 : 1 ≤ n) (hb : (n + n') * 2 < 2048)
    (he : ∀ (s1 : Shared) (Q1 : Unit → Shared → Prop), s1.heap.get? b = some o → Q1 () s1 → wpAny (model prog w) A each Q1 E s1)
    (k : ∀ h' m, Heap.SameBut a s.heap h' → m ≤ n + n' → TSet knd h' a (fun j => S j || S' j) m → Q () { s with heap := h' }) : wpAny (model prog w) A (setMerge a b each) Q E s := by
  obtain ⟨hel, hmem, hbd, hf, hn, hr, hl⟩ := id g
  unfold setMerge
  rw [if_neg (by simpa using fun z => hne z.symm)]
  refine wpAny_bind (wpAny_setState_of ho hd hf ?_)
  dsimp only
  split
  · rename_i c
    have h0 : es = #[] := Array.isEmpty_iff.mp c
    refine wpAny_pure (k s.heap n (Heap.SameBut.refl _ _) (by omega) (R.cast fun j => ?_))
    have : S' j = false := by
      cases z : S' j with
      | false => rfl
      | true =>
        obtain ⟨e, h, _⟩ := (hmem j).mp z
        rw [h0] at h
        simp at h
    rw [this, Bool.or_false]
  refine wpAny_bind (tset_room R (by rw [hn]; exact hb) fun hp1 sb1 R1 => ?_)
  have ho1 : hp1.get? b = some o := (sb1.2 b hne).trans ho
  obtain ⟨oa, ea, epa, ta, hoa, hexa, hda, ga⟩ := id R1
  refine wpAny_bind (wpAny_setState_of (s := { s with heap := hp1 }) hoa hda ga.2.2.2.1 ?_)
  dsimp only
  have hroad : ta.road t = .oneByOne := by
    unfold SetTable.road
    rw [if_pos]
    have hfa := ga.2.2.2.1
    unfold SetTable.fits at hfa
    rw [Bool.and_eq_true, beq_iff_eq] at hfa
    have h5 := ga.2.2.2.2.1
    show (ta.place.size + ta.dummies.size != 0) = true
    rw [bne_iff_ne]
    have h6 := hfa.1
    omega
  rw [hroad]
  dsimp only
  refine wpAny_bind (walk_unseen (s := { s with heap := hp1 }) ho1 hd g R1 hne fun hp2 ys sb2 R2 hp => ?_)
  have ho2 : hp2.get? b = some o := (sb2.2 b hne).trans ho1
  have sb02 := sb1.trans sb2
  refine wpAny_bind ?_
  rw [← Array.forIn_toList]
  have hlen : ys.toList.length = n' := by rw [hp.length_eq, Array.length_toList, hn]
  refine wpAny_forIn_list _
    (fun rest _ s' => ∃ h' m done, s' = { s with heap := h' } ∧ ys.toList = done ++ rest ∧ Heap.SameBut a s.heap h' ∧ m ≤ n + done.length ∧ TSet knd h' a (fun j => S j || done.any fun e => knd.is j e.2) m)
    _ ?_ ?_ _ _ ⟨hp2, n, [], rfl, rfl, sb02, Nat.le_refl _, R2.cast fun j => by simp⟩
  · rintro x rest u s' ⟨h', m, done, rfl, hys, sb, hm, R'⟩
    have hx : x ∈ es.toList := hp.mem_iff.mp (by rw [hys]; exact List.mem_append_right _ List.mem_cons_self)
    obtain ⟨⟨kk, k1, k2⟩, k3⟩ := hel x hx
    have hdl : done.length + (rest.length + 1) = n' := by
      rw [← hlen, hys, List.length_append, List.length_cons]
    have ho' : h'.get? b = some o := (sb.2 b hne).trans ho
    rw [k2]
    refine wpAny_bind (wpAny_holding (tset_add (s := { s with heap := h' }) k1 k3 R' (by show m + 1 < 4096; omega) fun bb h'' m' sb' hm' R'' => ?_))
    have ho'' : h''.get? b = some o := (sb'.2 b hne).trans ho'
    refine wpAny_bind (he _ _ ho'' ?_)
    refine wpAny_bind (wpAny_setState_of (s := { s with heap := h'' }) ho'' hd hf ?_)
    dsimp only
    rw [if_neg (by simp)]
    refine wpAny_pure ⟨h'', m', done ++ [x], rfl, by rw [hys, List.append_assoc]; rfl, sb.trans sb', by rw [List.length_append]; show m' ≤ n + (done.length + 1); omega, R''.cast fun j => ?_⟩
    have hj : knd.is j x.2 = decide (j = kk) := KeyKind.is_eq_decide k1 j
    rw [List.any_append, List.any_cons, List.any_nil, Bool.or_false, hj, Bool.or_assoc]
  · rintro u s' ⟨h', m, done, rfl, hys, sb, hm, R'⟩
    rw [List.append_nil] at hys
    subst hys
    exact wpAny_pure (k h' m sb (by omega) (R'.cast fun j => by rw [any_is hmem hp]))
/-- a new set -/
def FreshT (w : World) (h : Heap) (a : Addr) : Prop := ∃ o ep led, h.get? a = some o ∧ o.ExactSet ∧ o.data = .set #[] ep (.fresh 0 0 led) ∧ (w.params.followText "set-order" = true ∨ led = true)
theorem good_fresh {led : Bool} (h : w.params.followText "set-order" = true ∨ led = true) : GoodT knd (fun _ => false) 0 #[] (.fresh 0 0 led) :=
  ⟨(fun e he => by simp at he), (fun k => by simp), (by decide), (by rfl), rfl, List.Pairwise.nil, h⟩
theorem FreshT.tset {h : Heap} (f : FreshT w h a) : TSet knd h a (fun _ => false) 0 := let ⟨o, ep, led, h1, h2, h3, h4⟩ := f; ⟨o, #[], ep, _, h1, h2, h3, good_fresh h4⟩
theorem room_fresh {more : Nat} {Q : Unit → Shared → Prop} (F : FreshT w s.heap a) (hb : more * 2 < 2048)
    (k : ∀ h' ob ea eb tb, Heap.SameBut a s.heap h' → h'.get? a = some ob → ob.ExactSet → ob.data = .set ea eb tb → GoodT knd (fun _ => false) 0 ea tb → tb.dummies = #[] → goodN (tb.mask + 1) = true → more ≤ tb.mask → Q () { s with heap := h' }) : wpAny (model prog w) A (setRoomFor a more) Q E s := by
  obtain ⟨o, ep, led, ho, hex, hd, hl⟩ := F
  have g : GoodT knd (fun _ => false) 0 #[] (.fresh 0 0 led) := good_fresh hl
  unfold setRoomFor
  refine wpAny_bind (wpAny_setState_of ho hd g.2.2.2.1 ?_)
  dsimp only
  unfold SetTable.roomFor
  by_cases c : ((SetTable.fresh 0 0 led).fill + more) * 5 ≥ (SetTable.fresh 0 0 led).mask * 3
  · rw [if_pos c]
    have e : ((SetTable.fresh 0 0 led).place.size + more) * 2 = more * 2 := by show (0 + more) * 2 = _; omega
    rw [e]
    dsimp only
    obtain ⟨a1, a2, a3⟩ := above_good hb
    exact set_relay ho hex hd g (by omega) hb fun h' es' t' sb hg g' hm hdm => k h' _ es' (ep + 1) t' sb hg hex rfl g' hdm (by rw [hm]; exact a1) (by rw [hm]; omega)
  · rw [if_neg c]
    have c' : ¬ ((0 + 0 + more) * 5 ≥ 7 * 3) := c
    exact wpAny_pure (k s.heap o #[] ep _ (Heap.SameBut.refl _ _) ho hex hd g rfl (good_sizes 8 (by decide)) (by show more ≤ 7; omega))
theorem merge_fresh {each : Sem Unit} {Q : Unit → Shared → Prop} {o : Obj} {es : Array (Int × Value)} {ep : Nat} {t : SetTable} (ho : s.heap.get? b = some o) (hd : o.data = .set es ep t) (g : GoodT knd S' n' es t) (F : FreshT w s.heap a) (hne : b ≠ a) (hb : n' * 2 < 2048)
    (k : ∀ h', Heap.SameBut a s.heap h' → TSet knd h' a S' n' → (n' = 0 → FreshT w h' a) → Q () { s with heap := h' }) : wpAny (model prog w) A (setMerge a b each) Q E s := by
  obtain ⟨hel, hmem, hbd, hf, hn, hr, hl⟩ := id g
  unfold setMerge
  rw [if_neg (by simpa using fun z => hne z.symm)]
  refine wpAny_bind (wpAny_setState_of ho hd hf ?_)
  dsimp only
  split
  · rename_i c
    have h0 : es = #[] := Array.isEmpty_iff.mp c
    have hn0 : n' = 0 := by rw [← hn, h0]; rfl
    refine wpAny_pure (k s.heap (Heap.SameBut.refl _ _) ?_ fun _ => F)
    rw [hn0]
    refine (F.tset (knd := knd)).cast fun j => ?_
    cases z : S' j with
    | false => rfl
    | true =>
      obtain ⟨e, h, _⟩ := (hmem j).mp z
      rw [h0] at h
      simp at h
  rename_i c
  have hpos : 0 < es.size := Nat.pos_of_ne_zero fun z => c (by rw [Array.isEmpty_iff]; exact Array.eq_empty_of_size_eq_zero z)
  refine wpAny_bind (room_fresh (knd := knd) F (by rw [hn]; exact hb) fun hp ob ea eb tb sb1 h1 h2 h3 gd hdm hgood hle => ?_)
  refine wpAny_bind (wpAny_setState_of (s := { s with heap := hp }) h1 h3 gd.2.2.2.1 ?_)
  dsimp only
  have hfill : (tb.fill != 0) = false := by
    have hfa := gd.2.2.2.1
    unfold SetTable.fits at hfa
    rw [Bool.and_eq_true, beq_iff_eq] at hfa
    have h5 := gd.2.2.2.2.1
    show (tb.place.size + tb.dummies.size != 0) = false
    rw [hdm, hfa.1, h5]
    rfl
  have hled : w.params.followText "set-order" = true ∨ (tb.led && t.led) = true := by
    rcases hl with h | h
    · exact .inl h
    · rcases gd.2.2.2.2.2.2 with h' | h'
      · exact .inl h'
      · exact .inr (by rw [h, h']; rfl)
  have fin : ∀ (es2 : Array (Int × Value)) (t2 : SetTable), GoodT knd S' n' es2 t2 → wpAny (model prog w) A (storeSet a es2 t2) Q E { s with heap := hp } := fun es2 t2 g2 => by
    refine wpAny_storeSet_of (s := { s with heap := hp }) h1 h3 ?_ (fits_of_scanBound g2.2.2.1)
    refine k _ (sb1.trans (Heap.SameBut.update hp a _)) (tset_store h1 h2 h3 g2).2 fun z => ?_
    omega
  cases hroad : tb.road t with
  | oneByOne =>
    unfold SetTable.road at hroad
    rw [if_neg (by rw [hfill]; exact Bool.false_ne_true)] at hroad
    split at hroad <;> cases hroad
  | slotForSlot =>
    dsimp only
    exact fin es _ ⟨hel, hmem, hbd, hf, hn, hr, hled⟩
  | clean =>
    dsimp only
    obtain ⟨t', order, e1, e2, e3, e4, e5, e6, e7, e8, e9⟩ := laid_ok (mask := tb.mask) (finger := tb.finger) (moves := tb.moves) (led := tb.led && t.led) (plain := tb.plain && t.plain) (hs := es.map (·.1)) hgood (by rw [Array.size_map]; exact hle)
    rw [Array.size_map] at e2 e4
    have hp' := order_perm (es := es) e2
    have hz : (order.filterMap (es[·]?)).size = es.size := by rw [← Array.length_toList, hp'.length_eq, Array.length_toList]
    rw [e1]
    refine wpAny_bind ?_
    show wpAny _ _ (@ite (Sem (Array (Int × Value) × SetTable)) (((order.filterMap (es[·]?)).size != es.size) = true) _ _ _) _ _ _
    rw [if_neg (by rw [hz]; simp)]
    refine wpAny_pure (fin _ _ ⟨hel.perm hp', fun j => (hmem j).trans ⟨fun ⟨e, he, q⟩ => ⟨e, hp'.mem_iff.mpr he, q⟩, fun ⟨e, he, q⟩ => ⟨e, hp'.mem_iff.mp he, q⟩⟩, by rw [hz]; exact hbd, ?_, by rw [hz]; exact hn, e9, by rw [e7]; exact hled⟩)
    unfold SetTable.fits SetTable.fill
    rw [e4, hz, e5, e3, Bool.and_eq_true, beq_iff_eq, decide_eq_true_eq]
    exact ⟨rfl, by show es.size + 0 ≤ _; omega⟩
end

/-! ### the union of two sets -/
section
variable {prog : Program} {w : World} {κ : Type} [DecidableEq κ] {knd : KeyKind prog w κ} {A : Around} {E : Value → Shared → Prop} {s : Shared} {a b : Addr} {S S' : κ → Bool} {n n' : Nat}
theorem new_set {Q : Value → Shared → Prop} (k : FreshT w (s.heap.push { cls := .type "set", dict := none, data := .set #[] 0 (.fresh 0 0 (!w.params.followText "set-order")) }) s.heap.objs.size →
    Q (.ref s.heap.objs.size) { s with heap := s.heap.push { cls := .type "set", dict := none, data := .set #[] 0 (.fresh 0 0 (!w.params.followText "set-order")) } }) : wpAny (model prog w) A (newSet (.type "set")) Q E s := by
  unfold newSet
  refine wpAny_bind (L2.wpAny_byText ?_)
  dsimp only
  refine wpAny_newObj_type ?_
  refine k ⟨_, 0, _, Heap.get?_push_size _ rfl, ⟨rfl, rfl, rfl⟩, rfl, ?_⟩
  cases w.params.followText "set-order"
  · exact .inr rfl
  · exact .inl rfl
theorem copy_of {Q : Value → Shared → Prop} {o : Obj} {es : Array (Int × Value)} {ep : Nat} {t : SetTable} (ho : s.heap.get? b = some o) (hex : o.ExactSet) (hd : o.data = .set es ep t) (g : GoodT knd S' n' es t) (hb : n' * 2 < 2048)
    (k : ∀ h', (∀ c u, s.heap.get? c = some u → h'.get? c = some u) → TSet knd h' s.heap.objs.size S' n' → (n' = 0 → FreshT w h' s.heap.objs.size) → Q (.ref s.heap.objs.size) { s with heap := h' }) : wpAny (model prog w) A (Builtin.Frozenset.copyOf b) Q E s := by
  have hT : s.TypeIs (.ref b) "set" := ⟨o, ho, hex.1⟩
  have hlt : b < s.heap.objs.size := Heap.lt_size ho
  unfold Builtin.Frozenset.copyOf Builtin.Frozenset.baseOf
  refine wpAny_bind (wpAny_bind (wpAny_isInstance hT sub_set_self ?_))
  rw [if_pos rfl]
  refine wpAny_pure (wpAny_bind (new_set fun F => ?_))
  unfold Builtin.Frozenset.addrOf
  refine wpAny_bind (wpAny_pure ?_)
  have ho1 := Heap.get?_push_of_some { cls := .type "set", dict := none, data := .set #[] 0 (.fresh 0 0 (!w.params.followText "set-order")) } ho
  refine wpAny_bind (merge_fresh (s := { s with heap := s.heap.push { cls := .type "set", dict := none, data := .set #[] 0 (.fresh 0 0 (!w.params.followText "set-order")) } }) ho1 hd g F (Nat.ne_of_lt hlt) hb fun h' sb R f0 => ?_)
  exact wpAny_pure (k h' (fun c u e => (sb.2 c (Nat.ne_of_lt (Heap.lt_size e))).trans (Heap.get?_push_of_some _ e)) R f0)
theorem unchanged_at {nm : String} {o : Obj} {es : Array (Int × Value)} {ep : Nat} {t : SetTable} (hd : o.data = .set es ep t) (hf : t.fits es.size = true) (s1 : Shared) (Q1 : Unit → Shared → Prop) (ho : s1.heap.get? b = some o) (k : Q1 () s1) : wpAny (model prog w) A (Builtin.Frozenset.unchanged nm b ep) Q1 E s1 := by
  unfold Builtin.Frozenset.unchanged
  refine wpAny_bind (wpAny_setEpoch_of ho hd hf ?_)
  rw [if_neg (by simp)]
  exact wpAny_pure k
theorem upd_set {nm : String} {Q : Unit → Shared → Prop} {o : Obj} {es : Array (Int × Value)} {ep : Nat} {t : SetTable} (ho : s.heap.get? b = some o) (hex : o.ExactSet) (hd : o.data = .set es ep t) (g : GoodT knd S' n' es t) (R : TSet knd s.heap a S n) (f0 : n = 0 → FreshT w s.heap a) (hne : b ≠ a) (hb : (n + n') * 2 < 2048)
    (k : ∀ h' m, Heap.SameBut a s.heap h' → m ≤ n + n' → TSet knd h' a (fun j => S j || S' j) m → Q () { s with heap := h' }) : wpAny (model prog w) A (Builtin.Frozenset.updateFrom nm a (.ref b)) Q E s := by
  have hT : s.TypeIs (.ref b) "set" := ⟨o, ho, hex.1⟩
  have hf := g.2.2.2.1
  unfold Builtin.Frozenset.updateFrom
  refine wpAny_bind (any_set (b := true) hT sub_set_self (fun z => by cases z) ?_)
  rw [if_pos rfl]
  unfold Builtin.Frozenset.addrOf Builtin.Frozenset.merge
  refine wpAny_bind (wpAny_pure (wpAny_bind (wpAny_setEpoch_of ho hd hf ?_)))
  by_cases c : n = 0
  · refine merge_fresh (knd := knd) ho hd g (f0 c) hne (by omega) fun h' sb R' _ => k h' n' sb (by omega) (R'.cast fun j => ?_)
    obtain ⟨_, ea, _, _, _, _, _, ga⟩ := R
    have : S j = false := by
      cases z : S j with
      | false => rfl
      | true =>
        obtain ⟨e, h, _⟩ := (ga.2.1 j).mp z
        have h0 : ea = #[] := Array.eq_empty_of_size_eq_zero (by rw [ga.2.2.2.2.1, c])
        rw [h0] at h
        simp at h
    rw [this, Bool.false_or]
  · exact merge_more ho hd g R hne (by omega) hb (fun s1 Q1 h1 h2 => unchanged_at hd hf s1 Q1 h1 h2) k
end

/-! ### set(d), s | t, sorted(s) -/
theorem entry_or_s : entryFor table "set.__or__" = some Builtin.«frozenset.__or__» :=
  entryFor_alias (id' := "frozenset.__or__") (by kernel_rfl) rfl (by decide +kernel) (by kernel_rfl)
theorem tn_set : typeName (.type "set") = pure "set" := by
  unfold typeName
  rw [find?_eq_fast]
  kernel_rfl
section
variable {prog : Program} {w : World} {κ : Type} [DecidableEq κ] {knd : KeyKind prog w κ} {A : Around} {E : Value → Shared → Prop} {s : Shared} {l r d : Addr} {S S' : κ → Bool} {n n' : Nat}
theorem TSet.typeIs {S : κ → Bool} (R : TSet knd s.heap l S n) : s.TypeIs (.ref l) "set" := let ⟨o, _, _, _, h, x, _⟩ := R; ⟨o, h, x.1⟩
theorem TSet.at {h h' : Heap} {S : κ → Bool} (R : TSet knd h l S n) (k : ∀ o, h.get? l = some o → h'.get? l = some o) : TSet knd h' l S n := let ⟨o, es, ep, t, e, x⟩ := R; ⟨o, es, ep, t, k o e, x⟩
theorem or_sets {Q : Value → Shared → Prop} (L : TSet knd s.heap l S n) (R : TSet knd s.heap r S' n') (hne : r ≠ l) (hb : (n + n') * 2 < 2048)
    (k : ∀ h' m, (∀ c u, s.heap.get? c = some u → h'.get? c = some u) → m ≤ n + n' → TSet knd h' s.heap.objs.size (fun j => S j || S' j) m → Q (.ref s.heap.objs.size) { s with heap := h' }) :
    wpAny (model prog w) A (binaryOp .BitOr (.ref l) (.ref r)) Q E s := by
  obtain ⟨ol, el, epl, tl, hol, hexl, hdl, gl⟩ := id L
  obtain ⟨or, er, epr, tr, hor, hexr, hdr, gr⟩ := id R
  refine wpAny_binaryOp_same (op := .BitOr) L.typeIs R.typeIs F.fills_set_or F.slot_set_or (wpAny_call_entry F.slot_set_or L.typeIs entry_or_s ?_ (F.args_set_or_2 _ _))
  show wpAny _ _ ((Builtin.Frozenset.isAnySet (.ref l) <&&> Builtin.Frozenset.isAnySet (.ref r)) >>= _) _ _ s
  unfold andM
  refine wpAny_bind (wpAny_bind (any_set L.typeIs (b := true) sub_set_self (fun z => by cases z) (any_set R.typeIs (b := true) sub_set_self (fun z => by cases z) ?_)))
  refine L2.wp_if_neg (by simp) ?_
  refine wpAny_bind (m := Builtin.Frozenset.addrOf (.ref l)) (wpAny_pure ?_)
  refine wpAny_bind ?_
  show wpAny _ _ (Builtin.Frozenset.copyOf l >>= _) _ _ s
  refine wpAny_bind (copy_of hol hexl hdl gl (by omega) fun h' hk T f0 => ?_)
  refine L2.wp_if_pos (by simpa using hne) ?_
  refine wpAny_bind (m := Builtin.Frozenset.addrOf (.ref s.heap.objs.size)) (wpAny_pure (wpAny_bind (wpAny_holding ?_)))
  refine upd_set (s := { s with heap := h' }) (hk r or hor) hexr hdr gr T f0 (Nat.ne_of_lt (Heap.lt_size hor)) hb fun h2 m sb hm T2 => ?_
  refine wpAny_pure (wpAny_pure ⟨_, rfl, (fun z => by cases z), ?_⟩)
  exact k h2 m (fun c u e => (sb.2 c (Nat.ne_of_lt (Heap.lt_size e))).trans (hk c u e)) hm T2
/-- the set of a dict's keys -/
theorem init_dict {od : Obj} {es : Array DictEntry} {ep : Nat} {R : Fin → Shared → Prop} {E : Value → Shared → Prop} (T : TSet knd s.heap l (fun _ => false) 0) (f : FreshT w s.heap l) (hne : d ≠ l) (lo : (d == sysModules) = false) (hod : s.heap.get? d = some od) (hc : od.cls = .type "dict") (hdd : od.data = .dict es ep)
    (hk : ∀ e ∈ es.toList, ∃ k, knd.is k e.key = true ∧ e.hash = knd.hash k ∧ e.key.scannable = true) (hb : es.size * 2 < 2048)
    (k : ∀ h' m, Heap.SameBut l s.heap h' → m ≤ es.size → TSet knd h' l (fun j => es.toList.any fun e => knd.is j e.key) m → R (.done (.ret .none)) { s with heap := h' }) :
    wpAny (model prog w) A (Builtin.«set.__init__» ⟨[.ref l, .ref d], []⟩) R E s := by
  unfold Builtin.«set.__init__» noKeywords
  obtain ⟨o, ep0, led, ho, hex, hd, _⟩ := f
  have hf : (SetTable.fresh 0 0 led).fits (#[] : Array (Int × Value)).size = true := rfl
  have hT : s.TypeIs (.ref l) "set" := ⟨o, ho, hex.1⟩
  refine wpAny_bind (L2.wp_if_pos (by rfl) (wpAny_pure ?_))
  refine wpAny_bind (m := typeNameOfCut 200 (.ref l)) ?_
  have step : ∀ t : String, wpAny (model prog w) A (do
      checkCount t 0 1 1
      let a ← Builtin.Frozenset.addrOf (.ref l)
      if (← setUsed a) = true then Builtin.Frozenset.clearAll a
      Builtin.Frozenset.updateFrom "set.__init__" a (.ref d)
      ret .none) R E s := fun t => by
    refine wpAny_bind (m := checkCount t 0 1 1) (wpAny_pure (wpAny_bind (m := Builtin.Frozenset.addrOf (.ref l)) (wpAny_pure (wpAny_bind ?_))))
    unfold setUsed
    refine wpAny_bind (wpAny_setState_of ho hd hf (wpAny_pure ?_))
    refine L2.wp_if_neg (by show ¬ ((0 : Nat) != 0) = true; decide) ?_
    refine wpAny_bind (upd_dict T hne lo hod hc hdd hk (by omega) fun h' m sb hm T' => ?_)
    exact wpAny_pure (k h' m sb (by omega) (T'.cast fun j => by rw [Bool.false_or]))
  unfold typeNameOfCut shownTypeOf
  refine wpAny_bind (wpAny_bind (wpAny_typeOf hT ?_))
  refine L2.wp_if_neg (by decide) (wpAny_pure ?_)
  rw [show typeNameCut 200 (.type "set") = typeName (.type "set") from rfl, tn_set]
  exact wpAny_pure (step "set")
set_option maxHeartbeats 1600000 in
theorem call_set_dict {od : Obj} {es : Array DictEntry} {ep : Nat} {Q : Value → Shared → Prop} (lo : (d == sysModules) = false) (hod : s.heap.get? d = some od) (hc : od.cls = .type "dict") (hdd : od.data = .dict es ep)
    (hk : ∀ e ∈ es.toList, ∃ k, knd.is k e.key = true ∧ e.hash = knd.hash k ∧ e.key.scannable = true) (hb : es.size * 2 < 2048)
    (k : ∀ h' m, (∀ c u, s.heap.get? c = some u → h'.get? c = some u) → m ≤ es.size → TSet knd h' s.heap.objs.size (fun j => es.toList.any fun e => knd.is j e.key) m → Q (.ref s.heap.objs.size) { s with heap := h' }) :
    wpAny (model prog w) A (call (.type "set") [.ref d]) Q E s := by
  have ⟨c, tl, hmro⟩ := F.called_set.mro
  have gMade := F.called_set.made
  have gSub := F.called_set.sub
  refine wpAny_call (codeAny_of_tree (show wpAny _ _ (callAny (.type "set") _) _ _ _ from wpAny_pure ⟨Code.quiet_builtin _ (by decide +kernel), codeAny_builtin F.entry_type_call ?_⟩))
  rw [Around.under_plain (weight_type_call_type "set" [.ref d] []) rfl]
  have gNot := F.called_set.notType
  have gCan := F.called_set.canCreate
  have gChk := F.typeCall_set_1 (.ref d)
  repeat (any_goals (first | assumption | wp_step))
  let s0 : Shared := { s with heap := s.heap.push { cls := .type "set", dict := none, data := .set #[] 0 (.fresh 0 0 (!w.params.followText "set-order")) } }
  refine codeAny_mono (L2.code_set_led1 (.ref d) (E := E) (Q₁ := fun obj s₁ => obj = .ref s.heap.objs.size ∧ s₁ = s0) ⟨rfl, rfl⟩) fun rr s₁ hr => ?_
  cases rr with
  | error e => exact hr
  | ok fl =>
    cases fl with
    | ret obj =>
      obtain ⟨rfl, rfl⟩ := hr
      have fr : FreshT w s0.heap s.heap.objs.size := by
        refine ⟨_, 0, _, Heap.get?_push_size _ rfl, ⟨rfl, rfl, rfl⟩, rfl, ?_⟩
        cases w.params.followText "set-order"
        · exact .inr rfl
        · exact .inl rfl
      have tf : TSet knd s0.heap s.heap.objs.size (fun _ => false) 0 := fr.tset
      have hT : s0.TypeIs (.ref s.heap.objs.size) "set" := tf.typeIs
      have gLook := F.called_set.init.lookup
      have gBind := F.called_set.init.bind (.ref s.heap.objs.size)
      repeat (any_goals (first | assumption | wp_step))
      refine codeAny_mono (codeAny_call_builtin (R := wants (fun x s₂ => x = .none ∧ Q (.ref s.heap.objs.size) s₂) E) F.called_set.init.plain F.entry_set_init (check_set_init_1 hT ?_)) fun r2 s2 hr2 => ?_
      · have hod' : s0.heap.get? d = some od := Heap.get?_push_of_some _ hod
        refine init_dict (s := s0) tf fr (Nat.ne_of_lt (Heap.lt_size hod)) lo hod' hc hdd hk hb fun h' m sb hm T => ⟨rfl, k h' m (fun b u e => ?_) hm T⟩
        exact (sb.2 b (Nat.ne_of_lt (Heap.lt_size e))).trans (Heap.get?_push_of_some _ e)
      · cases r2 with
        | error e => exact hr2
        | ok f2 =>
          cases f2 with
          | ret x =>
            obtain ⟨rfl, q⟩ := hr2
            repeat (any_goals (first | assumption | wp_step))
          | _ => exact hr2.elim
    | _ => exact hr.elim
end

end GC

set_option Elab.async false
set_option linter.all false
set_option maxRecDepth 100000
set_option maxHeartbeats 4000000
namespace GC
open PySem L2 Evl
/-! ### values told by a predicate, over heaps that only grow -/
abbrev VP := V → Hp → Prop
class Mono (P : VP) : Prop where
  mono : ∀ {v : V} {H H' : Hp}, Ex H H' → P v H → P v H'
def Is (v0 : V) : VP := fun v _ => v = v0
instance {v0 : V} : Mono (Is v0) := ⟨fun _ h => h⟩
/-- a tuple of these values, a list of these values, wherever it stands -/
def Tp (K : PySem.W.Frag) (xs : List V) : VP := fun v H => ∃ p, v = .ref p ∧ SqT K H p xs
def Ls (K : PySem.W.Frag) (xs : List V) : VP := fun v H => ∃ p, v = .ref p ∧ SqL K H p xs
instance {K : PySem.W.Frag} {xs : List V} : Mono (Tp K xs) := ⟨fun e ⟨p, a, b⟩ => ⟨p, a, ex_t e b⟩⟩
instance {K : PySem.W.Frag} {xs : List V} : Mono (Ls K xs) := ⟨fun e ⟨p, a, b⟩ => ⟨p, a, ex_l e b⟩⟩
/-- a new object -/
def Nw (H : Hp) (o : HO) : VP := fun v H2 => ∃ p, v = .ref p ∧ H p = none ∧ H2 p = some o
instance {H : Hp} {o : HO} : Mono (Nw H o) := ⟨fun e ⟨p, a, b, c⟩ => ⟨p, a, b, e p _ c⟩⟩
def EvX (te : TE) (σ : L2.St) (H : Hp) (P : VP) : Prop := ∀ H1, Ex H H1 → ∀ Q : VK, (∀ v H2, Ex H1 H2 → P v H2 → Q v H2) → te σ H1 Q
def EvXA (ta : TA) (σ : L2.St) (H : Hp) (P : List V → Hp → Prop) : Prop := ∀ H1, Ex H H1 → ∀ Q : List V → Hp → Prop, (∀ vs H2, Ex H1 H2 → P vs H2 → Q vs H2) → ta σ H1 Q
def SpX (sp : Sp) (vs : List V) (H : Hp) (P : VP) : Prop := ∀ H1, Ex H H1 → ∀ (Q : VK) (E : XK), (∀ v H2, Ex H1 H2 → P v H2 → Q v H2) → sp vs H1 Q E
def Ret (P : VP) (H : Hp) (Q : VK) : Prop := ∀ v H2, Ex H H2 → P v H2 → Q v H2
/-- a def that changes nothing that stood: its arguments by x, what must hold of them, what is told -/
def SpF {α : Type} (args : α → List V) (Pre : α → Hp → Prop) (Post : α → Hp → VP) : Sp := fun vs H Q _ => ∃ x : α, vs = args x ∧ Pre x H ∧ Ret (Post x H) H Q
section
variable {K : PySem.W.Frag} {σ : L2.St} {H H' : Hp} {ta tb te tx : TE} {t u : TT} {x y z v : V} {P P' R : VP}
theorem sx_of {α : Type} {args : α → List V} {Pre : α → Hp → Prop} {Post : α → Hp → VP} (x : α) (hm : ∀ H1, Ex H H1 → Pre x H1) (hp : ∀ H1 v H2, Ex H H1 → Ex H1 H2 → Post x H1 v H2 → P v H2) : SpX (SpF args Pre Post) (args x) H P :=
  fun H1 e Q _ q => ⟨x, rfl, hm H1 e, fun v H2 e2 h => q v H2 e2 (hp H1 v H2 e e2 h)⟩
theorem sv_of {sp : Sp} {vs : List V} (h : SpX sp vs H (Is v)) : SpV sp vs H v := fun H1 e Q q E => h H1 e Q E fun w H2 e2 hw => by
  cases (show w = v from hw)
  exact q H2 e2
theorem x_ev (h : Ev te σ H v) : EvX te σ H (Is v) := fun H1 e Q q => h H1 e Q fun H2 e2 => q v H2 e2 rfl
theorem ev_x (h : EvX te σ H (Is v)) : Ev te σ H v := fun H1 e Q q => h H1 e Q fun w H2 e2 hw => by
  cases (show w = v from hw)
  exact q H2 e2
theorem x_is (h : Ev te σ H v) (hp : ∀ H1, Ex H H1 → P v H1) : EvX te σ H P := fun H1 e Q q => h H1 e Q fun H2 e2 => q v H2 e2 (hp H2 (e.trans e2))
theorem EvX.mono (e : Ex H H') (h : EvX te σ H P) : EvX te σ H' P := fun H1 a Q q => h H1 (e.trans a) Q q
theorem EvX.imp (h : EvX te σ H P) (hp : ∀ v H1, Ex H H1 → P v H1 → R v H1) : EvX te σ H R := fun H1 e Q q => h H1 e Q fun w H2 e2 hw => q w H2 e2 (hp w H2 (e.trans e2) hw)
theorem x_tup {ta : TA} {vs : List V} (h : EvA ta σ H vs) (hl : vs.length ≤ 100000 := by exact Nat.le_of_ble_eq_true rfl) : EvX (tTup ta) σ H (Nw H (.tup vs)) := fun H1 e Q q =>
  eu_tup h hl H1 e Q fun p H2 hp e2 h2 => q _ H2 e2 ⟨p, rfl, fresh_back e hp, h2⟩
theorem x_lst {ta : TA} {vs : List V} (h : EvA ta σ H vs) (hl : vs.length ≤ 100000 := by exact Nat.le_of_ble_eq_true rfl) : EvX (tLst ta) σ H (Nw H (.lst vs)) := fun H1 e Q q =>
  el_lst h hl H1 e Q fun p H2 hp e2 h2 => q _ H2 e2 ⟨p, rfl, fresh_back e hp, h2⟩
theorem x_dnew : EvX tDNewK σ H (Nw H (.dK [])) := fun H1 e Q q => fun p hp => q _ _ (Ex.new hp) ⟨p, rfl, fresh_back e hp, upd_same⟩
theorem nw_tp {xs : List V} : ∀ v H1, Ex H H1 → Nw H (.tup xs) v H1 → Tp K xs v H1 := fun _ _ _ ⟨p, a, _, c⟩ => ⟨p, a, st_of c⟩
theorem nw_ls {xs : List V} : ∀ v H1, Ex H H1 → Nw H (.lst xs) v H1 → Ls K xs v H1 := fun _ _ _ ⟨p, a, _, c⟩ => ⟨p, a, sq_of c⟩
theorem nw_t {H0 H1 : Hp} {xs : List V} {v : V} : Nw H0 (.tup xs) v H1 → Tp K xs v H1 := fun ⟨p, a, _, c⟩ => ⟨p, a, st_of c⟩
theorem nw_l {H0 H1 : Hp} {xs : List V} {v : V} : Nw H0 (.lst xs) v H1 → Ls K xs v H1 := fun ⟨p, a, _, c⟩ => ⟨p, a, sq_of c⟩
theorem x_tupT {ta : TA} {vs : List V} (h : EvA ta σ H vs) (hl : vs.length ≤ 100000 := by exact Nat.le_of_ble_eq_true rfl) : EvX (tTup ta) σ H (Tp K vs) := (x_tup h hl).imp nw_tp
theorem x_tupM {ta : TA} {vs : List V} (h : EvA ta σ H vs) (hl : vs.length ≤ 100000) : EvX (tTup ta) σ H (Tp K vs) := (x_tup h hl).imp nw_tp
theorem ax_nil : EvXA tNil σ H (fun vs _ => vs = []) := fun H1 _ Q q => q [] H1 (Ex.refl H1) rfl
theorem ax_cons {tr : TA} {PA : List V → Hp → Prop} [Mono P] (h : EvX te σ H P) (hr : EvXA tr σ H PA) : EvXA (tCons te tr) σ H (fun vs H2 => ∃ v r, vs = v :: r ∧ P v H2 ∧ PA r H2) := fun H1 e Q q =>
  h H1 e _ fun v H2 e2 hv => hr H2 (e.trans e2) _ fun r H3 e3 hr' => q _ H3 (e2.trans e3) ⟨v, r, rfl, Mono.mono e3 hv, hr'⟩
theorem x_call {sp : Sp} {dvs : List V} {E : XK} {ta : TA} {PA : List V → Hp → Prop} (h : EvXA ta σ H PA) (hs : ∀ vs H1, Ex H H1 → PA vs H1 → SpX sp (vs ++ dvs) H1 P) : EvX (tCall sp dvs E ta) σ H P := fun H1 e Q q =>
  h H1 e _ fun vs H2 e2 hv => hs vs H2 (e.trans e2) hv H2 (Ex.refl H2) Q E fun v H3 e3 hp => q v H3 (e2.trans e3) hp
theorem x_if {b : Bool} (h : EvT t σ H b) (h1 : b = true → EvX ta σ H P) (h2 : b = false → EvX tb σ H P) : EvX (tIf t ta tb) σ H P := fun H1 e Q q => h H1 e _ fun H2 e2 => by
  cases b with
  | true => exact h1 rfl H2 (e.trans e2) Q fun v H3 e3 hv => q v H3 (e2.trans e3) hv
  | false => exact h2 rfl H2 (e.trans e2) Q fun v H3 e3 hv => q v H3 (e2.trans e3) hv
theorem ev_ifI {b : Bool} {i j : Int} (h : EvT t σ H b) (h1 : Ev ta σ H (.int i)) (h2 : Ev tb σ H (.int j)) : Ev (tIf t ta tb) σ H (.int (if b = true then i else j)) :=
  ev_if h (fun e => by rw [if_pos e]; exact h1) (fun e => by rw [if_neg (by rw [e]; exact Bool.false_ne_true)]; exact h2)
variable {D : Ends} {tu tw tz : TS}
theorem qx_asg {i : Nat} (h : EvX te σ H P) (k : ∀ v H1, Ex H H1 → P v H1 → tz D (σ.set i (some v)) H1) : tSeq (tAsg te (gName i)) tz D σ H := h H (Ex.refl H) _ fun v H1 e hp => k v H1 e hp
theorem sx_asg {i : Nat} (h : EvX te σ H P) (k : ∀ v H1, Ex H H1 → P v H1 → D.nx (σ.set i (some v)) H1) : tAsg te (gName i) D σ H := h H (Ex.refl H) _ fun v H1 e hp => k v H1 e hp
theorem sx_ret (h : EvX te σ H P) (k : ∀ v H1, Ex H H1 → P v H1 → D.rt v H1) : tRet te D σ H := h H (Ex.refl H) _ fun v H1 e hp => k v H1 e hp
end
section
variable {K : PySem.W.Frag} {σ : L2.St} {H H' : Hp} {ta tb te tx : TE} {t u : TT} {x y z v : V} {P P' R : VP}
theorem x_call1 {sp : Sp} {E : XK} {P1 : VP} (h1 : EvX ta σ H P1) (hs : ∀ v1 H1, Ex H H1 → P1 v1 H1 → SpX sp [v1] H1 P) : EvX (tCall sp [] E (tCons ta tNil)) σ H P := fun H1 e Q q =>
  h1 H1 e _ fun v1 H2 e2 p1 => hs v1 H2 (e.trans e2) p1 H2 (Ex.refl H2) Q E fun v H3 e3 hp => q v H3 (e2.trans e3) hp
theorem x_call2 {sp : Sp} {E : XK} {P1 P2 : VP} [Mono P1] (h1 : EvX ta σ H P1) (h2 : EvX tb σ H P2) (hs : ∀ v1 v2 H1, Ex H H1 → P1 v1 H1 → P2 v2 H1 → SpX sp [v1, v2] H1 P) : EvX (tCall sp [] E (tCons ta (tCons tb tNil))) σ H P := fun H1 e Q q =>
  h1 H1 e _ fun v1 H2 e2 p1 => h2 H2 (e.trans e2) _ fun v2 H3 e3 p2 => hs v1 v2 H3 ((e.trans e2).trans e3) (Mono.mono e3 p1) p2 H3 (Ex.refl H3) Q E fun v H4 e4 hp => q v H4 ((e2.trans e3).trans e4) hp
theorem x_varT {i : Nat} {p : Addr} {xs : List V} (h : σ[i]? = some (some (.ref p))) (hq : SqT K H p xs) : EvX (tVar i) σ H (Tp K xs) := x_is (ev_var h) fun _ e => ⟨p, rfl, ex_t e hq⟩
theorem x_varL {i : Nat} {p : Addr} {xs : List V} (h : σ[i]? = some (some (.ref p))) (hq : SqL K H p xs) : EvX (tVar i) σ H (Ls K xs) := x_is (ev_var h) fun _ e => ⟨p, rfl, ex_l e hq⟩
theorem ev_lenT {p : Addr} {xs : List V} (ha : Ev ta σ H (.ref p)) (h : SqT K H p xs) : Ev (tCB (rLenS K) (tCons ta tNil)) σ H (.int (xs.length : Int)) := fun H1 e Q q =>
  ha H1 e _ fun H2 e2 => ⟨p, xs, rfl, Or.inr (ex_t (e.trans e2) h), q H2 e2⟩
def rMin2 : List V → Hp → VK → Prop := fun xs H Q => ∃ i j, xs = [.int i, .int j] ∧ Q (.int (if j < i then j else i)) H
theorem ev_min2 {i j : Int} (ha : Ev ta σ H (.int i)) (hb : Ev tb σ H (.int j)) : Ev (tCB rMin2 (tCons ta (tCons tb tNil))) σ H (.int (if j < i then j else i)) := fun H1 e Q q =>
  ha H1 e _ fun H2 e2 => hb H2 (e.trans e2) _ fun H3 e3 => ⟨i, j, rfl, q H3 (e2.trans e3)⟩
/-- isinstance(x, T) -/
theorem ev_isi {a T : String} {b : Bool} (h : Ev tx σ H x) (hty : ∀ H1, Ex H H1 → TyX K H1 x (.type a)) (hb : kitB a T = some b) : Ev (tCB (rIsi K) (tCons tx (tCons (tC (.ty T)) tNil))) σ H (.bl b) := fun H1 e Q q =>
  h H1 e _ fun H2 e2 => ⟨x, .ty T, .type a, .type T, b, rfl, .ty T, hty H2 (e.trans e2), kit_ty hb, q H2 e2⟩
theorem tyx_tup {H : Hp} {p : Addr} {xs : List V} (h : SqT K H p xs) : TyX K H (.ref p) (.type "tuple") := by
  rcases h with (h | ⟨o, h⟩) | ⟨o, its, n, h1, h2, _⟩
  · exact .base (.tup h)
  · exact .fTuple h
  · exact .kTuple h1 h2
theorem tyx_lst {H : Hp} {p : Addr} {xs : List V} (h : SqL K H p xs) : TyX K H (.ref p) (.type "list") := by
  rcases h with (h | ⟨o, h⟩) | ⟨o, its, n, h1, h2, _⟩
  · exact .base (.lst h)
  · exact .base (.frz h)
  · exact .kList h1 h2
end
section
variable {K : PySem.W.Frag} {H : Hp} {x : V}
theorem rc_lenT {p : Addr} {xs : List V} (h : SqT K H p xs) : RC (rLenS K) [.ref p] H (.int (xs.length : Int)) := fun H1 e _ q => ⟨p, xs, rfl, Or.inr (ex_t e h), q H1 (Ex.refl H1)⟩
theorem rc_lenL {p : Addr} {xs : List V} (h : SqL K H p xs) : RC (rLenS K) [.ref p] H (.int (xs.length : Int)) := fun H1 e _ q => ⟨p, xs, rfl, Or.inl (ex_l e h), q H1 (Ex.refl H1)⟩
def rLenStr : List V → Hp → VK → Prop := fun xs H Q => ∃ z : Str, xs = [.str z] ∧ z.length ≤ sizeLine ∧ Q (.int z.length) H
theorem rc_lenStr {z : Str} (h : z.length ≤ 100000) : RC rLenStr [.str z] H (.int (z.length : Int)) := fun H1 _ _ q => ⟨z, rfl, sz_of h, q H1 (Ex.refl H1)⟩
theorem rc_max2 {i j : Int} : RC rMax2 [.int i, .int j] H (.int (if j > i then j else i)) := fun H1 _ _ q => ⟨i, j, rfl, q H1 (Ex.refl H1)⟩
theorem rc_min2 {i j : Int} : RC rMin2 [.int i, .int j] H (.int (if j < i then j else i)) := fun H1 _ _ q => ⟨i, j, rfl, q H1 (Ex.refl H1)⟩
theorem rc_isi {a T : String} {b : Bool} (hty : ∀ H1, Ex H H1 → TyX K H1 x (.type a)) (hb : kitB a T = some b) : RC (rIsi K) [x, .ty T] H (.bl b) := fun H1 e _ q =>
  ⟨x, .ty T, .type a, .type T, b, rfl, .ty T, hty H1 e, kit_ty hb, q H1 (Ex.refl H1)⟩
end
/-- what stands where a def's name points -/
structure Has (K : PySem.W.Frag) (mg : Str → Option Value) (x : Str) (st : Stmt) (ps : List Str) (f : Addr) (fd : FuncData) : Prop where
  m : mg x = some (.ref f)
  F : Fun K x x st f fd
  b : Binds K fd ps []
def tupInts (o : Obj) (ns : List Int) : Bool := match o.cls, o.data with
  | .type "tuple", .seq its _ => decide (its.size ≤ 1000) && decide (its.toList.map absV = ns.map fun i => some (V.int i))
  | _, _ => false
theorem absV_inv {v : V} {u : Value} (h : absV u = some v) : RelV v u := by
  cases u <;> simp only [absV] at h <;> first | (cases h; done) | (injection h with h; subst h; first | exact rfl | exact ⟨_, rfl⟩)
theorem vals_abs : ∀ {us : List Value} {xs : List V}, us.map absV = xs.map some → Vals xs us
  | [], [], _ => .nil
  | [], _ :: _, h => by cases h
  | _ :: _, [], h => by cases h
  | u :: us, x :: xs, h => by
    rw [List.map_cons, List.map_cons, List.cons.injEq] at h
    exact .cons (absV_inv h.1) (vals_abs h.2)
theorem sqT_written {K : PySem.W.Frag} {H : Hp} {a : Addr} {o : Obj} {ns : List Int} (h : K.lookup a = some o) (t : tupInts o ns = true) : SqT K H a (ns.map V.int) := by
  obtain ⟨cl, dd, dt, sl⟩ := o
  unfold tupInts at t
  split at t
  · rename_i its n e1 e2
    rw [Bool.and_eq_true] at t
    have h1 := of_decide_eq_true t.1
    have h2 := of_decide_eq_true t.2
    refine .inr ⟨_, its, n, h, e1, e2, Nat.le_trans h1 (by decide), vals_abs ?_⟩
    rw [h2, List.map_map]
    rfl
  · cases t
/-! ### steps of my own -/
local macro_rules | `(tactic| walk_at "ex") => `(tactic| first | assumption | exact Ex.refl _ | (apply Ex.trans; rotate_left; assumption; walk_at "ex"))
local macro_rules | `(tactic| walk_at "sv") => `(tactic| assumption)
local macro_rules | `(tactic| walk_at "sq") => `(tactic| first | assumption | (apply ex_t; rotate_left; assumption; walk_at "ex") | (apply ex_l; rotate_left; assumption; walk_at "ex") | (refine st_of ?_; assumption) | (refine sq_of ?_; assumption))
local macro_rules | `(tactic| walk_at "ty") => `(tactic| first | exact fun _ _ => .base (.int _) | exact fun _ _ => .base (.bl _) | exact fun _ _ => .base (.str _) | exact fun _ _ => .base .non | exact fun _ ez => tyx_tup (ex_t ez (by walk_at "sq")) | exact fun _ ez => tyx_lst (ex_l ez (by walk_at "sq")))
local macro_rules | `(tactic| walk_at "pos") => `(tactic| first | (show (0 : Int) < _; decide) | exact ⟨by decide, by decide⟩ | exact ⟨by decide, by decide, by decide⟩ | (show (0 : Int) < _; omega) | (refine ⟨?_, ?_⟩ <;> omega) | (refine Or.inl ⟨?_, ?_⟩ <;> omega) | (refine Or.inr ⟨?_, ?_⟩ <;> omega) | (show (0 : Int) < _; decide +kernel))
local macro_rules | `(tactic| walk_at "rv") => `(tactic| first
  | with_reducible exact rv_I0
  | ((with_reducible apply rv_I); walk_at "pos")
  | ((with_reducible apply rv_eq); exact rfl)
  | ((with_reducible apply rv_ne); exact rfl)
  | ((with_reducible apply rv_ixT); (focus (walk_at "sq")); exact rfl)
  | ((with_reducible apply rv_ixL); (focus (walk_at "sq")); exact rfl))
local macro_rules | `(tactic| walk_at "rc") => `(tactic| first
  | ((with_reducible apply rc_isi (b := true)); (focus (walk_at "ty")); decide +kernel)
  | ((with_reducible apply rc_isi (b := false)); (focus (walk_at "ty")); decide +kernel)
  | (apply rc_lenT; walk_at "sq")
  | (apply rc_lenL; walk_at "sq")
  | exact rc_max2
  | exact rc_min2)
local macro_rules | `(tactic| walk_at "ev") => `(tactic| first
  | ((with_reducible apply ev_var); exact rfl)
  | with_reducible exact ev_c
  | with_reducible exact ea_nil
  | ((with_reducible apply ea_cons) <;> walk_at "ev")
  | ((with_reducible apply ev_op); (focus (walk_at "ev")); (focus (walk_at "ev")); walk_at "rv")
  | ((with_reducible apply ev_cb); (focus (walk_at "ev")); walk_at "rc")
  | ((with_reducible apply et_test); walk_at "ev")
  | ((with_reducible apply et_B); walk_at "ev")
  | ((with_reducible apply et_not); walk_at "ev")
  | ((with_reducible apply ev_notV); walk_at "ev")
  | ((with_reducible apply ev_ifI) <;> walk_at "ev")
  | ((with_reducible apply et_or); (focus (walk_at "ev")); (intro _; walk_at "ev"))
  | ((with_reducible apply et_and); (focus (walk_at "ev")); (intro _; walk_at "ev"))
  | ((with_reducible apply ev_orV); (focus (walk_at "ev")); (intro _; walk_at "ev"))
  | ((with_reducible apply ev_andV); (focus (walk_at "ev")); (intro _; walk_at "ev"))
  | walk_at "xc")
local macro_rules | `(tactic| walk_at "xc") => `(tactic| ((with_reducible apply ev_call); (focus (walk_at "ev")); (focus (walk_at "sv"))))
local macro_rules | `(tactic| walk_at "xv") => `(tactic| first
  | assumption
  | ((with_reducible apply x_tupM); (focus (walk_at "ev")); exact Nat.le_of_ble_eq_true rfl)
  | ((with_reducible apply x_varT); (focus (exact rfl)); walk_at "sq")
  | ((with_reducible apply x_varL); (focus (exact rfl)); walk_at "sq")
  | ((with_reducible apply x_ev); walk_at "ev"))

/-! ### texts by their signs -/
def sg (c : Nat) : Str := ⟨#[c]⟩
def ofL (cs : List Nat) : Str := ⟨cs.toArray⟩
theorem str_ext {a b : Str} (h : a.cps.toList = b.cps.toList) : a = b := by
  cases a; cases b
  congr 1
  exact Array.toList_inj.mp h
theorem ofL_len (cs : List Nat) : (ofL cs).length = cs.length := by show cs.toArray.size = _; simp
theorem ofL_tl (cs : List Nat) : (ofL cs).cps.toList = cs := rfl
theorem ofL_app (a b : List Nat) : ofL a ++ ofL b = ofL (a ++ b) := str_ext (by
  show (a.toArray ++ b.toArray).toList = (a ++ b)
  simp)
theorem ofL_eta (z : Str) : ofL z.cps.toList = z := str_ext rfl
theorem joinL_nil : ∀ ps : List (List Nat), TL.joinL [] ps = ps.flatten
  | [] => rfl
  | [p] => by simp [TL.joinL]
  | p :: q :: r => by
    show p ++ ([] ++ TL.joinL [] (q :: r)) = _
    rw [joinL_nil (q :: r)]
    simp
theorem join_sg (cs : List Nat) : Txt.join (Str.ofString "") (cs.map sg) = ofL cs := by
  rw [TL.join_eq]
  refine str_ext ?_
  show TL.tl (Str.join _ _) = cs
  rw [TL.tl_join]
  have e : TL.tl (Str.ofString "") = [] := by rw [TL.tl_ofString]; rfl
  rw [e, joinL_nil, List.map_map]
  have e2 : (TL.tl ∘ sg) = fun c => [c] := rfl
  rw [e2]
  induction cs with
  | nil => rfl
  | cons c r ih => simp [ih]
theorem sg_len (cs : List Nat) : ((cs.map sg).map (·.length)).sum = cs.length := by
  induction cs with
  | nil => rfl
  | cons c r ih =>
    rw [List.map_cons, List.map_cons, List.sum_cons, ih]
    show 1 + r.length = r.length + 1
    omega
theorem atI_of {α : Type} {xs : List α} {i : Int} {v : α} (h0 : 0 ≤ i) (h : xs[i.toNat]? = some v) : atI xs i = some v := by
  have e0 : ((i.toNat : Nat) : Int) = i := by omega
  rw [← e0]
  exact atI_nat h
theorem atI_in {xs : List Nat} {i : Int} (h0 : 0 ≤ i) (h1 : i < (xs.length : Int)) : atI xs i = some (xs[i.toNat]?.getD 0) := by
  have e0 : ((i.toNat : Nat) : Int) = i := by omega
  have hlt : i.toNat < xs.length := by omega
  rw [← e0]
  refine atI_nat ?_
  rw [e0, List.getElem?_eq_getElem hlt]
  rfl
section
variable {K : PySem.W.Frag} {σ : L2.St} {H H' : Hp} {ta tb tc te tl' to : TE} {x y z w : V} {r r' : R2}
theorem ev_chain {b1 b2 : Bool} (ha : Ev ta σ H x) (hb : Ev tb σ H y) (h1 : RV r x y H (.bl b1)) (hc : b1 = true → Ev tc σ H w) (h2 : b1 = true → RV r' y w H (.bl b2)) : Ev (tChain r r' ta tb tc) σ H (.bl (b1 && b2)) := fun H1 e Q q =>
  ha H1 e _ fun H2 e2 => hb H2 (e.trans e2) _ fun H3 e3 => h1 H3 ((e.trans e2).trans e3) _ fun H4 e4 => ⟨b1, rfl, by
    cases b1 with
    | true =>
      show tc σ H4 _
      exact hc rfl H4 (((e.trans e2).trans e3).trans e4) _ fun H5 e5 => h2 rfl H5 ((((e.trans e2).trans e3).trans e4).trans e5) Q fun H6 e6 => q H6 ((((e2.trans e3).trans e4).trans e5).trans e6)
    | false =>
      show Q (.bl false) H4
      exact q H4 ((e2.trans e3).trans e4)⟩
def rLeStr : R2 := fun x y H Q => ∃ i j, x = .str i ∧ y = .str j ∧ Q (.bl (!decide (j.cps.toList < i.cps.toList))) H
def rNotInS' : R2 := fun x y H Q => ∃ (c : Nat) (z : Str), x = .str ⟨#[c]⟩ ∧ y = .str z ∧ Q (.bl (!decide (c ∈ z.cps.toList))) H
def rAddStr : R2 := fun x y H Q => ∃ i j, x = .str i ∧ y = .str j ∧ i.length + j.length ≤ sizeLine ∧ Q (.str (i ++ j)) H
theorem rv_leStr {i j : Str} : RV rLeStr (.str i) (.str j) H (.bl (!decide (j.cps.toList < i.cps.toList))) := fun H1 _ _ q => ⟨i, j, rfl, rfl, q H1 (Ex.refl H1)⟩
theorem rv_notInS {c : Nat} {z : Str} : RV rNotInS' (.str ⟨#[c]⟩) (.str z) H (.bl (!decide (c ∈ z.cps.toList))) := fun H1 _ _ q => ⟨c, z, rfl, rfl, q H1 (Ex.refl H1)⟩
theorem rv_addStr {i j : Str} (h : i.length + j.length ≤ 100000) : RV rAddStr (.str i) (.str j) H (.str (i ++ j)) := fun H1 _ _ q => ⟨i, j, rfl, rfl, sz_of h, q H1 (Ex.refl H1)⟩
theorem rv_isB {a b : Bool} : RV rIsB (.bl a) (.bl b) H (.bl (decide (a = b))) := fun H1 _ _ q => ⟨a, b, rfl, rfl, q H1 (Ex.refl H1)⟩
theorem rv_notB {a b : Bool} : RV rNotB (.bl a) (.bl b) H (.bl (!decide (a = b))) := fun H1 _ _ q => ⟨a, b, rfl, rfl, q H1 (Ex.refl H1)⟩
theorem et_yes : EvT tYes σ H true := fun H1 _ _ q => q H1 (Ex.refl H1)
/-- sep.join(xs) -/
def rJoin (K : PySem.W.Frag) : V → List V → Hp → VK → Prop := fun x xs H Q => ∃ a p, ∃ ys : List Str, x = .str a ∧ xs = [.ref p] ∧ (SqL K H p (ys.map V.str) ∨ SqT K H p (ys.map V.str)) ∧
      (ys.map (·.length)).sum + ys.length * a.length ≤ 16777216 ∧ Q (.str (Txt.join a ys)) H
theorem x_join {cs : List Nat} (h1 : Ev to σ H (.str (Str.ofString ""))) (h2 : EvX te σ H (Ls K ((cs.map sg).map V.str))) (hl : cs.length ≤ 100000) : Ev (tM1 (rJoin K) to te) σ H (.str (ofL cs)) := fun H1 e Q q =>
  h1 H1 e _ fun H2 e2 => ⟨⟨_, rfl⟩, h2 H2 (e.trans e2) _ fun v H3 e3 ⟨p, hv, hp⟩ => ⟨_, p, cs.map sg, rfl, by rw [hv], .inl hp, by
    have l0 : (Str.ofString "").length = 0 := rfl
    rw [sg_len, l0]
    omega, by
    rw [join_sg]
    exact q H3 (e2.trans e3)⟩⟩
/-- a walk over a text's signs -/
theorem q_forStr {D : Ends} {tu tz : TS} {z : Str} {j : Nat} (h : Ev te σ H (.str z)) (Pv : Nat → L2.St → Hp → Prop) (h0 : ∀ H1, Ex H H1 → Pv 0 σ H1)
    (hs : ∀ i c σ' H', z.cps.toList[i]? = some c → Pv i σ' H' → tu { D with nx := Pv (i + 1), ct := Pv (i + 1), bk := tz D } (σ'.set j (some (.str ⟨#[c]⟩))) H') (hd : ∀ σ' H', Pv z.cps.toList.length σ' H' → tz D σ' H') :
    tSeq (tFor (iStr te) (gName j) tu) tz D σ H := h H (Ex.refl H) _ fun H1 e => ⟨z, rfl, for_it (D := { D with nx := tz D }) (walk_str (z := z)) Pv (h0 H1 e) (fun _ _ _ _ _ => trivial) (fun i x σ' H' H'' hi p y => by
      obtain ⟨rfl, c, hc, rfl⟩ := y
      exact hs i c σ' _ (by rw [← hc]; simp) p) (fun σ' H' p => hd σ' H' (by simpa using p))⟩
/-- [e for c in s] -/
theorem el_lcS {z : Str} {tl : TE} {j : Nat} {vs : List Nat} (v : Nat → V) (h : Ev tl σ H (.str z)) (hz : z.cps.toList.length ≤ 40000) (hw : ∀ x, wipe ((wipe σ vs).set j (some x)) vs = wipe σ vs)
    (he : ∀ (i : Nat) (c : Nat) H1, Ex H H1 → z.cps.toList[i]? = some c → Ev te ((wipe σ vs).set j (some (.str ⟨#[c]⟩))) H1 (v c)) :
    EvL (tLc (iStr tl) (gName j) tYes te vs) σ H (z.cps.toList.map v) := fun H0 e Q q => h H0 e _ fun H1 e1 => ⟨z, rfl, fun Dl hD =>
  lc_it (walk_str (z := z)) (Cw H1 (fun _ => true) (fun i => v (z.cps.toList[i]?.getD 0)) Dl) ⟨hD, Ex.new hD, upd_same⟩ (fun _ _ _ _ => trivial) (fun i x H' H'' hi p y => by
      obtain ⟨rfl, c, hc, rfl⟩ := y
      have hc' : z.cps.toList[i]? = some c := by rw [← hc]; simp
      have hi' : i < z.cps.toList.length := by simpa using hi
      exact ⟨hw _, cw_turn p (by omega) et_yes (fun _ => by
        have := he i c H1 (e.trans e1) hc'
        rw [hc']
        exact this)⟩) (fun H' p => by
      refine q Dl H' (fresh_back e1 p.1) (e1.trans p.2.1) ?_
      rw [p.2.2]
      congr 2
      unfold given
      rw [List.filter_eq_self.mpr (fun _ _ => rfl)]
      refine List.ext_getElem? fun i => ?_
      rw [List.getElem?_map, List.getElem?_map]
      by_cases hi : i < z.cps.size
      · rw [List.getElem?_range hi]
        have hi' : i < z.cps.toList.length := by simpa using hi
        rw [List.getElem?_eq_getElem hi']
        simp [hi]
      · rw [List.getElem?_eq_none (by simp; omega), List.getElem?_eq_none (by simp; omega)]
        rfl)⟩
theorem given_all (n : Nat) (v : Nat → V) : given n (fun _ => true) v = (List.range n).map v := by
  unfold given
  rw [List.filter_eq_self.mpr (fun _ _ => rfl)]
end
local macro_rules | `(tactic| walk_at "len") => `(tactic| first | assumption | exact Nat.le_of_ble_eq_true rfl | omega | decide +kernel)
local macro_rules | `(tactic| walk_at "rv") => `(tactic| first | with_reducible exact rv_isB | with_reducible exact rv_notB | exact rv_leStr | exact rv_notInS | (apply rv_addStr; walk_at "len"))
local macro_rules | `(tactic| walk_at "rc") => `(tactic| (apply rc_lenStr; walk_at "len"))
local macro_rules | `(tactic| walk_at "xc") => `(tactic| ((with_reducible apply ev_chain); (focus (walk_at "ev")); (focus (walk_at "ev")); (focus (walk_at "rv")); (focus (intro _; walk_at "ev")); (intro _; walk_at "rv")))

section
variable {K : PySem.W.Frag} {σ : L2.St} {H H' : Hp} {ta tb tc te tl' to : TE} {x y z w v : V} {r r' : R2}
theorem x_all {bs : List Bool} (h : EvL te σ H (bs.map V.bl)) : Ev (tCB (rAll K) (tCons te tNil)) σ H (.bl (bs.all id)) := fun H1 e Q q =>
  h H1 e _ fun p H2 _ e2 h2 => ⟨p, bs, rfl, sq_of h2, q H2 e2⟩
theorem tyof_mono {t : Value} (e : Ex H H') (h : TyOf K H x t) : TyOf K H' x t := by
  cases h with
  | non => exact .non
  | bl b => exact .bl b
  | int i => exact .int i
  | str s => exact .str s
  | flt b => exact .flt b
  | lst h => exact .lst (e _ _ h)
  | frz h => exact .frz (e _ _ h)
  | tup h => exact .tup (e _ _ h)
  | dK h => exact .dK (e _ _ h)
  | dT h => exact .dT (e _ _ h)
  | ins h a b c d f => exact .ins (e _ _ h) a b c d f
theorem tyx_mono {t : Value} (e : Ex H H') (h : TyX K H x t) : TyX K H' x t := by
  cases h with
  | base h => exact .base (tyof_mono e h)
  | byt b => exact .byt b
  | set h => exact .set (e _ _ h)
  | kList h c => exact .kList h c
  | kTuple h c => exact .kTuple h c
  | kDict h c => exact .kDict h c
  | fTuple h => exact .fTuple (e _ _ h)
  | fDict h => exact .fDict (e _ _ h)
/-- all of as many values keep P -/
def AllP (P : VP) (n : Nat) : List V → Hp → Prop := fun vs H => vs.length = n ∧ ∀ v ∈ vs, P v H
theorem AllP.mono {P : VP} [Mono P] {n : Nat} {vs : List V} (e : Ex H H') (h : AllP P n vs H) : AllP P n vs H' := ⟨h.1, fun v hv => Mono.mono e (h.2 v hv)⟩
theorem axA_nil {P : VP} : EvXA tNil σ H (AllP P 0) := fun H1 _ Q q => q [] H1 (Ex.refl H1) ⟨rfl, fun _ h => by cases h⟩
theorem axA_cons {P : VP} [Mono P] {n : Nat} {tr : TA} (h : EvX te σ H P) (hr : EvXA tr σ H (AllP P n)) : EvXA (tCons te tr) σ H (AllP P (n + 1)) := fun H1 e Q q =>
  h H1 e _ fun v H2 e2 hv => hr H2 (e.trans e2) _ fun r H3 e3 hr' => q _ H3 (e2.trans e3) ⟨by rw [List.length_cons, hr'.1], fun u hu => by
    rcases List.mem_cons.mp hu with rfl | hu
    · exact Mono.mono e3 hv
    · exact hr'.2 u hu⟩
theorem x_lstA {P : VP} [Mono P] {n : Nat} {ta : TA} (h : EvXA ta σ H (AllP P n)) (hn : n ≤ 100000) : EvX (tLst ta) σ H (fun v H2 => ∃ p vs, v = .ref p ∧ H p = none ∧ H2 p = some (.lst vs) ∧ AllP P n vs H2) := fun H1 e Q q =>
  h H1 e _ fun vs H2 e2 hv => ⟨sz_of (by rw [hv.1]; exact hn), fun p hp => q _ _ (e2.trans (Ex.new hp)) ⟨p, vs, rfl, fresh_back e (fresh_back e2 hp), upd_same, hv.mono (Ex.new hp)⟩⟩
/-- {k: v}, one pair -/
theorem x_disp1 {tk tv : TE} {s : Str} {v : V} (hk : Ev tk σ H (.str s)) (hv : Ev tv σ H v) : EvX (tDisp [(tk, tv)]) σ H (Nw H (.dK [(.inr s, v)])) := fun H1 e Q q => fun p hp =>
  hk _ (e.trans (Ex.new hp)) _ fun H2 e2 => hv H2 ((e.trans (Ex.new hp)).trans e2) _ fun H3 e3 => ⟨e3 _ _ (e2 _ _ upd_same), [(.inr s, v)], rfl, Nat.le_of_ble_eq_true rfl, q _ _ (Ex.mut (((Ex.new hp).trans e2).trans e3) hp) ⟨p, rfl, fresh_back e hp, upd_same⟩⟩
end

theorem pg_tupK {X : Cx} {K : PySem.W.Frag} {es : List Expr} {pos : Pos} {k : Nat} {t : TGs} {n : Nat} (hK : X.K = K) (hc : X.calm = true) (h : PGs X es t) (hn : (assignEach es X.env).length = n) (hst : (assignEach es X.env).findIdx? (·.1) = none) : PG X (.Tuple es k pos) (gTup K n t) := by
  subst hK
  exact pg_tup hc h hn hst
section
variable {K : PySem.W.Frag} {σ : L2.St} {H H' : Hp} {te : TE}
theorem map_range_get {α β : Type} (xs : List α) (d : α) (v : α → β) : (List.range xs.length).map (fun i => v (xs[i]?.getD d)) = xs.map v := by
  refine List.ext_getElem? fun i => ?_
  rw [List.getElem?_map, List.getElem?_map]
  by_cases hi : i < xs.length
  · rw [List.getElem?_range hi, List.getElem?_eq_getElem hi]
    simp [hi]
  · rw [List.getElem?_eq_none (by simp; omega), List.getElem?_eq_none (by omega)]
    rfl
/-- [e for x in t], t a tuple -/
theorem el_lcT {a : Addr} {xs : List V} {tl : TE} {j : Nat} {vs : List Nat} (v : V → V) (h : Ev tl σ H (.ref a)) (hx : SqT K H a xs) (hz : xs.length ≤ 40000) (hw : ∀ x, wipe ((wipe σ vs).set j (some x)) vs = wipe σ vs)
    (he : ∀ (x : V) H1, Ex H H1 → x ∈ xs → Ev te ((wipe σ vs).set j (some x)) H1 (v x)) :
    EvL (tLc (iTup K tl) (gName j) tYes te vs) σ H (xs.map v) := fun H0 e Q q => h H0 e _ fun H1 e1 => ⟨a, rfl, ⟨xs, ex_t (e.trans e1) hx⟩, fun Dl hD =>
  lc_it (walk_tup (K := K) (a := a) (xs := xs)) (Cw H1 (fun _ => true) (fun i => v (xs[i]?.getD .non)) Dl) ⟨hD, Ex.new hD, upd_same⟩ (fun i H' hi p => ex_t ((e.trans e1).trans p.2.1) hx) (fun i x H' H'' hi p y => by
      obtain ⟨rfl, hc⟩ := y
      exact ⟨hw _, cw_turn p (by omega) et_yes (fun _ => by
        have := he x H1 (e.trans e1) (List.mem_of_getElem? hc)
        rw [hc]
        exact this)⟩) (fun H' p => by
      refine q Dl H' (fresh_back e1 p.1) (e1.trans p.2.1) ?_
      rw [p.2.2, given_all, map_range_get])⟩
end
/-! ### a dict that is walked: locked, then as before -/
section
variable {K : PySem.W.Frag} {H H' : Hp} {d : Addr} {od : Obj} {kvs : List (Key × V)}
theorem lock_t {q : Addr} {xs : List V} (hd : H d = some (.dK kvs)) (h : SqT K H q xs) : SqT K (upd H d (.frz od (.dK kvs))) q xs := by
  rcases h with (h | ⟨o, h⟩) | h
  · exact .inl (.inl (by rw [upd_ne (ne_of h hd (by intro z; cases z))]; exact h))
  · exact .inl (.inr ⟨o, by rw [upd_ne (ne_of h hd (by intro z; cases z))]; exact h⟩)
  · exact .inr h
theorem lock_ty {x : V} {t : Value} (hd : H d = some (.dK kvs)) (h : TyX K H x t) : TyX K (upd H d (.frz od (.dK kvs))) x t := by
  cases h with
  | base h =>
    cases h with
    | non => exact .base .non
    | bl b => exact .base (.bl b)
    | int i => exact .base (.int i)
    | str s => exact .base (.str s)
    | flt b => exact .base (.flt b)
    | lst h => exact .base (.lst (by rw [upd_ne (ne_of h hd (by intro z; cases z))]; exact h))
    | frz h => exact .base (.frz (by rw [upd_ne (ne_of h hd (by intro z; cases z))]; exact h))
    | tup h => exact .base (.tup (by rw [upd_ne (ne_of h hd (by intro z; cases z))]; exact h))
    | @dK a kvs' h =>
      by_cases e : a = d
      · subst e
        exact .fDict upd_same
      · exact .base (.dK (by rw [upd_ne e]; exact h))
    | dT h => exact .base (.dT (by rw [upd_ne (ne_of h hd (by intro z; cases z))]; exact h))
    | ins h a b c d f => exact .base (.ins (by rw [upd_ne (ne_of h hd (by intro z; cases z))]; exact h) a b c d f)
  | byt b => exact .byt b
  | set h => exact .set (by rw [upd_ne (ne_of h hd (by intro z; cases z))]; exact h)
  | kList h c => exact .kList h c
  | kTuple h c => exact .kTuple h c
  | kDict h c => exact .kDict h c
  | fTuple h => exact .fTuple (by rw [upd_ne (ne_of h hd (by intro z; cases z))]; exact h)
  | fDict h => exact .fDict (by rw [upd_ne (ne_of h hd (by intro z; cases z))]; exact h)
theorem unlock {u : HO} (hd : H d = some u) (e : Ex (upd H d (.frz od u)) H') : Ex H (upd H' d u) := fun a o h => by
  by_cases hq : a = d
  · subst hq
    rw [hd] at h
    rw [upd_same]
    exact h
  · rw [upd_ne hq]
    exact e a o (by rw [upd_ne hq]; exact h)
theorem lock_free {u : HO} {a : Addr} (hd : H d = some u) (e : Ex (upd H d (.frz od u)) H') (h : H' a = none) : H a = none := by
  have h1 := fresh_back e h
  by_cases hq : a = d
  · subst hq
    rw [upd_same] at h1
    cases h1
  · rw [upd_ne hq] at h1
    exact h1
end
section
variable {K : PySem.W.Frag} {σ : L2.St} {H H' : Hp} {te td : TE}
theorem ex_upd2 {d : Addr} {o : HO} (e : Ex H H') : Ex (upd H d o) (upd H' d o) := fun a u h => by
  by_cases hq : a = d
  · subst hq
    rw [upd_same] at h ⊢
    exact h
  · rw [upd_ne hq] at h ⊢
    exact e a u h
/-- [e for k, x in d.items()] -/
theorem el_lockItems {d : Addr} {kvs : List (Key × V)} {i j n : Nat} {vs : List Nat} (vals : List V) (hv : vals.length = kvs.length) (hd : H d = some (.dK kvs)) (h : ∀ H', Ev td σ H' (.ref d)) (hn : n = 2) (hz : kvs.length ≤ 30000)
    (hw : ∀ x y, wipe (((wipe σ vs).set i (some x)).set j (some y)) vs = wipe σ vs) (he : ∀ (m : Nat) (kv : Key × V) (u : V), kvs[m]? = some kv → vals[m]? = some u → ∀ od H1, Ex (upd H d (.frz od (.dK kvs))) H1 → Ev te (((wipe σ vs).set i (some (kV kv.1))).set j (some kv.2)) H1 u) :
    EvL (tLockE (tLc (iItems td) (gTup K n (gCons (gName i) (gCons (gName j) gNil))) tYes te vs)) σ H vals := fun H0 e Q q => by
  refine ⟨d, .dK kvs, e _ _ hd, trivial, fun od => ?_⟩
  refine h _ _ (Ex.refl _) _ fun H2 e2 => ?_
  have hd2 : H2 d = some (.frz od (.dK kvs)) := e2 d _ upd_same
  have e02 : Ex (upd H d (.frz od (.dK kvs))) H2 := (ex_upd2 e).trans e2
  refine ⟨d, od, kvs, rfl, hd2, fun Dl hD => ?_⟩
  refine lc_it (walk_items (d := d) (o := od) (kvs := kvs)) (Cw H2 (fun _ => true) (fun i => vals[i]?.getD .non) Dl) ⟨hD, Ex.new hD, upd_same⟩ (fun _ H' _ p => p.2.1 d _ hd2) (fun m x H' H'' hi p y => ?_) (fun H' p => ?_)
  · obtain ⟨T, a, b, rfl, hT, rfl, ha, hb⟩ := y
    have p' : Cw H2 (fun _ => true) (fun i => vals[i]?.getD .non) Dl m (upd H' T (.tup [a, b])) := ⟨p.1, p.2.1.trans (Ex.new hT), by rw [upd_ne (ne_of_none p.2.2 hT)]; exact p.2.2⟩
    have hkv : kvs[m]? = some kvs[m] := List.getElem?_eq_getElem hi
    have hi' : m < vals.length := by omega
    have hu : vals[m]? = some vals[m] := List.getElem?_eq_getElem hi'
    have ha' : a = kV kvs[m].1 := by
      have ha : Option.map (fun kv => kV kv.1) kvs[m]? = some a := ha
      rw [hkv] at ha
      exact (Option.some.inj ha).symm
    have hb' : b = kvs[m].2 := by
      have hb : Option.map Prod.snd kvs[m]? = some b := hb
      rw [hkv] at hb
      exact (Option.some.inj hb).symm
    refine ⟨T, [a, b], rfl, .inl (.inl upd_same), by rw [hn]; rfl, a, [b], rfl, b, [], rfl, rfl, hw a b, ?_⟩
    refine cw_turn p' (by omega) et_yes (fun _ => ?_)
    rw [hu, ha', hb']
    exact he m kvs[m] vals[m] hkv hu od H2 e02
  · have hne : Dl ≠ d := fun z => by
      rw [z, hd2] at hD
      cases hD
    refine ⟨p.2.1 d _ hd2, q Dl _ (lock_free (e _ _ hd) e2 hD) (unlock (e _ _ hd) (e2.trans p.2.1)) ?_⟩
    rw [upd_ne hne, p.2.2, given_all, ← hv, map_range_get vals .non (fun x => x), List.map_id']
end

/-! ### two tuples of two numbers, alike or not -/
section
variable {K : PySem.W.Frag} {H : Hp} {x y : V}
theorem rv_neD {d e : PyData} (h1 : ∀ H1, Ex H H1 → Dp K H1 x d) (h2 : ∀ H1, Ex H H1 → Dp K H1 y e) (s1 : SeqAt.shaped d = true) (s2 : SeqAt.shaped e = true) : RV (rNeD K) x y H (.bl (!PyData.eqv d e)) := fun H1 e _ q => ⟨_, _, h1 H1 e, h2 H1 e, s1, s2, q H1 (Ex.refl H1)⟩
theorem rv_eqD {d e : PyData} (h1 : ∀ H1, Ex H H1 → Dp K H1 x d) (h2 : ∀ H1, Ex H H1 → Dp K H1 y e) (s1 : SeqAt.shaped d = true) (s2 : SeqAt.shaped e = true) : RV (rEqD K) x y H (.bl (PyData.eqv d e)) := fun H1 e _ q => ⟨_, _, h1 H1 e, h2 H1 e, s1, s2, q H1 (Ex.refl H1)⟩
theorem dp_two {q : Addr} {a b : Int} (h : SqT K H q [.int a, .int b]) : Dp K H (.ref q) (.tuple [.int a, .int b]) := .tup h (.cons (.int a) (.cons (.int b) .nil))
theorem eqv_two (a b c d : Int) : PyData.eqv (.tuple [.int a, .int b]) (.tuple [.int c, .int d]) = (decide (a = c) && decide (b = d)) := by
  simp [PyData.eqv, PyData.eqvAll, Bool.beq_eq_decide_eq]
theorem shaped_two (a b : Int) : SeqAt.shaped (.tuple [.int a, .int b]) = true := by
  simp [SeqAt.shaped, PyData.canLay0, PyData.canLayAll0, PyData.depth, PyData.depthAll]
end

/-! ### sorted(d), the keys texts, any number of them -/
open PyProof.Rows in
def signsV : Value → List Nat
  | .str x _ => x.cps.toList
  | _ => []
def ltSg (v u : Value) : Bool := decide (signsV v < signsV u)
theorem swo_sg : SrtO.Swo ltSg := ⟨fun x y h => decide_eq_false fun h2 => List.lt_asymm (of_decide_eq_true (p := signsV x < signsV y) h) h2,
  fun x y z h1 h2 => by
    have a := of_decide_eq_false (p := signsV y < signsV x) h1
    have b := of_decide_eq_false (p := signsV z < signsV y) h2
    exact decide_eq_false (p := signsV z < signsV x) (List.le_trans (show signsV x ≤ signsV y from a) (show signsV y ≤ signsV z from b))⟩
section
variable {prog : Program} {w : World} {A : Around} {s : Shared}
theorem strs_each : ∀ {vs : List Value} {ss : List Str}, PyProof.Rows.StrsAre vs ss → ∀ v ∈ vs, ∃ x t, v = Value.str x t
  | _, _, .nil, v, h => absurd h List.not_mem_nil
  | _, _, .cons x t r, v, h => by
    rcases List.mem_cons.mp h with e | h
    · exact ⟨x, t, e⟩
    · exact strs_each r v h
theorem strs_of : ∀ {vs : List Value}, (∀ v ∈ vs, ∃ x t, v = Value.str x t) → PyProof.Rows.StrsAre vs (vs.map fun v => ofL (signsV v))
  | [], _ => .nil
  | v :: vs, h => by
    obtain ⟨x, t, e⟩ := h v List.mem_cons_self
    subst e
    have e2 : ofL (signsV (.str x t)) = x := ofL_eta x
    rw [List.map_cons, e2]
    exact .cons x t (strs_of fun u hu => h u (List.mem_cons_of_mem _ hu))
theorem of_strs : ∀ {vs : List Value} {ss : List Str}, PyProof.Rows.StrsAre vs ss → (vs.map fun v => ofL (signsV v)) = ss
  | _, _, .nil => rfl
  | _, _, .cons x t r => by
    rw [List.map_cons, of_strs r]
    congr 1
theorem sortable_sg {a : Addr} {vs : List Value} {ss : List Str} (hS : PyProof.Rows.StrsAre vs ss) (h2 : 2 ≤ vs.length) : SrtO.SortableO prog w A s a vs ltSg := by
  intro h' _
  refine ⟨PyProof.Rows.oneType', fun Q E hq => ?_, fun p q hp hq => ?_⟩
  · match vs, hS, h2 with
    | a :: b :: r, hS, _ =>
      rw [PyProof.Rows.keyKind_strs hS]
      exact wpAny_pure hq
    | [], _, h => exact absurd h (by decide)
    | [v], _, h => exact absurd h (by simp)
  · obtain ⟨x, t, e⟩ := strs_each hS _ hp
    obtain ⟨y, u, e'⟩ := strs_each hS _ hq
    show wpAny (model prog w) A (PyProof.Rows.keyLt' PyProof.Rows.oneType' p.1 q.1) (fun r s' => s' = _ ∧ r = ltSg p.1 q.1) (fun _ _ => False) _
    rw [e, e', PyProof.Rows.keyLt'_oneType]
    exact PyProof.Rows.oneLt_str ⟨rfl, rfl⟩
end
def rSortD : List V → Hp → VK → Prop := fun xs H Q => ∃ (a : Addr) (kvs : List (Key × V)) (ks : List Str), xs = [.ref a] ∧ Rd H a (.dK kvs) ∧ kvs.map (·.1) = ks.map Sum.inr ∧ ks.length ≤ 100000 ∧
  ∀ (ys : List Str) (p : Addr), ys.Perm ks → ys.Pairwise (fun x y => ¬ y.cps.toList < x.cps.toList) → H p = none → Q (.ref p) (upd H p (.lst (ys.map V.str)))
theorem pw_of {out : List Value} (h : SrtO.Srtd ltSg out) : (out.map fun v => ofL (signsV v)).Pairwise fun x y => ¬ y.cps.toList < x.cps.toList :=
  List.pairwise_map.mpr (h.imp fun {x y} g => of_decide_eq_false (p := signsV y < signsV x) g)
theorem gc_sortedD {X : Cx} (hcalm : X.calm = true) : CallR X (.builtin "sorted") rSortD := by
  intro pins s σ H xs us Q I r ⟨a, kvs, ks, ex, hd, hks, hlk, q⟩
  subst ex
  obtain ⟨u, rfl, rx⟩ := vals1 r
  cases (show u = Value.ref a from rx)
  obtain ⟨_, lo, vs, rel, dd⟩ := dk_rd I.hok hd
  obtain ⟨ep, hat⟩ := dd.dictAt
  have hkeys : vs.map Prod.fst = ks.map Sum.inr := (rel.keys.symm.trans hks)
  have hl : vs.length = ks.length := by simpa using congrArg List.length hkeys
  have hsz : vs.length ≤ sizeLine := sz_of (by rw [hl]; exact hlk)
  refine Calls.call_function_entry PyProof.Rows.kind_sorted PyProof.Rows.plain_sorted PyProof.Rows.entry_sorted (PyProof.Rows.args_sorted1 _) (?_ : wpAny _ _ (Builtin.«sorted» _) _ _ _)
  unfold Builtin.«sorted»
  refine wpAny_bind (m := checkCount "sorted" 1 1 _) (wpAny_pure (wpAny_bind (PySem.W.kdu_collect (A := X.A.in1) (PySem.W.kdl_dict (knd := mixKind X.prog X.w) (kvs := vs) (ep := ep) lo) (I.ok.hd hcalm) hat hsz fun h1 tk acc hk hacc => ?_)))
  have hal : acc.toList.length = ks.length := (by rw [Array.length_toList, hacc.1, hl])
  have hS : PyProof.Rows.StrsAre acc.toList ks := strs_at hal fun j v e => by
    obtain ⟨k, x, g1, g2⟩ := hacc.2 j v (by simpa using e)
    have g3 : (vs.map Prod.fst)[j]? = some k := by simp [g1]
    rw [hkeys, List.getElem?_map] at g3
    cases g4 : ks[j]? with
    | none => simp [g4] at g3
    | some y =>
      rw [g4] at g3
      obtain rfl : Sum.inr y = k := Option.some.inj g3
      obtain ⟨t, ev⟩ := Value.isStrOf_shape (x := y) (v := v) g2
      exact ⟨y, t, rfl, ev⟩
  have I1 : Inv X pins σ H { s with heap := h1, toks := tk } := I.kept hk
  have hz : acc.toList.length ≤ sizeLine := by rw [hal]; exact sz_of hlk
  refine wpAny_bind (wpAny_newList (?_ : wpAny _ _ _ _ _ { s with heap := h1.push (PyProof.Rows.seqObj "list" acc.toList.toArray 0), toks := tk }) (by rw [Array.length_toList] at hz; exact hz))
  have hoL : (h1.push (PyProof.Rows.seqObj "list" acc.toList.toArray 0)).get? h1.objs.size = some (PyProof.Rows.seqObj "list" acc.toList.toArray 0) := (Heap.get?_push_size _ rfl)
  refine wpAny_bind (wpAny_holding (wpAny_call_entry PyProof.Rows.slot_list_sort ⟨_, hoL, rfl⟩ PyProof.Rows.entry_list_sort (SrtO.list_sort_ord swo_sg hoL hz (fun h2 => sortable_sg hS h2) fun out o1 o2 => ⟨_, rfl, ?_⟩) (PyProof.Rows.args_list_sort _)))
  have hm : ∀ v ∈ out, ∃ x t, v = Value.str x t := fun v hv => strs_each hS v (o2.perm.mem_iff.mp hv)
  have hp : (out.map fun v => ofL (signsV v)).Perm ks := by
    have := o2.perm.map fun v => ofL (signsV v)
    rw [of_strs hS] at this
    exact this
  obtain ⟨e', he'⟩ := PyProof.Rows.sortedHeap_at (vs := acc.toList) (out := out.toArray) hoL
  refine wpAny_pure ⟨_, rfl, .ref h1.objs.size, upd H h1.objs.size (.lst ((out.map fun v => ofL (signsV v)).map V.str)), I1.laid (t' := tk) (fun b u e => ?_) (Nat.le_refl _) (show ObjOk X.prog X.w _ _ _ (.lst _) from ⟨by rw [List.length_map, hp.length_eq]; exact sz_of hlk, out, e', vals_of_strs (strs_of hm), he'⟩), rfl, q _ _ hp (pw_of o1) (I1.hok.fresh (Nat.le_refl _))⟩
  have hb := Heap.lt_size e
  have hb2 : b < (h1.push (PyProof.Rows.seqObj "list" acc.toList.toArray 0)).objs.size := by rw [PyProof.Rows.size_push']; exact Nat.lt_succ_of_lt hb
  exact (PyProof.Rows.sortedHeap_old (Nat.ne_of_lt hb) hb2).trans (Heap.get?_push_of_some _ e)

/-! ### dicts copied, alike, with one put in -/
section
theorem putK_len {kvs : List (Key × V)} {k : Key} {v : V} : (putK kvs k v).length ≤ kvs.length + 1 := by
  unfold putK
  split
  · rw [List.length_map]; omega
  · rw [List.length_append]; simp
theorem putK_nd {kvs : List (Key × V)} {k : Key} {v : V} (h : (kvs.map (·.1)).Nodup) : ((putK kvs k v).map (·.1)).Nodup := by
  cases e : valV kvs k with
  | none => exact nd_putK v h e
  | some u =>
    have he : (kvs.any fun kv => decide (kv.1 = k)) = true := by
      rw [valV_any, e]
      rfl
    unfold putK
    rw [if_pos he, List.map_map]
    have : ((fun x : Key × V => x.1) ∘ fun kv : Key × V => if kv.1 = k then (kv.1, v) else kv) = fun x => x.1 := by
      funext x
      show (if x.1 = k then (x.1, v) else x).1 = x.1
      split <;> rfl
    rw [this]
    exact h
theorem putK_full {kvs : List (Key × V)} {k : Key} {v : V} (h : (putK kvs k v).length = kvs.length + 1) : putK kvs k v = kvs ++ [(k, v)] := by
  unfold putK at h ⊢
  split
  · rename_i e
    rw [if_pos e, List.length_map] at h
    omega
  · rfl
end
section
variable {X : Cx}
/-- == and != of two dicts with the same pairs: values alike in place or plain -/
theorem hits_same {A : Around} {s : Shared} {kvs : List (Key × V)} {vb : List (Key × Value)} (rb : KV kvs vb) {ks : List (Key × V)} {va : List (Key × Value)} (ra : KV ks va) :
    (∀ p ∈ ks, valV kvs p.1 = some p.2 ∧ (flatB p.2 = true ∨ ∃ a, p.2 = .ref a)) → PySem.W.KeqHits A s vb va true := by
  unfold KV at ra
  induction ra with
  | nil => intro _; exact .nil
  | @cons p q ps qs h t ih =>
    intro hp
    obtain ⟨h1, h2⟩ := h
    obtain ⟨e, f⟩ := hp p List.mem_cons_self
    have rr : RelO (some p.2) (PySem.valueAt vb p.1) := by rw [← e]; exact rb.val p.1
    obtain ⟨y, hy, ry⟩ := rr.some_of
    obtain ⟨k, v⟩ := q
    have h1' : p.1 = k := h1
    rw [h1'] at hy
    show PySem.W.KeqHits A s vb ((k, v) :: qs) (true && true)
    refine .hit hy ?_ (ih fun p' hm => hp p' (List.mem_cons_of_mem _ hm))
    rcases f with f | ⟨a, f⟩
    · exact eqAt_same h2 ry f
    · rw [f] at h2 ry
      cases (show v = Value.ref a from h2)
      cases (show y = Value.ref a from ry)
      exact SeqAt.EqAt.same _
def rDictSame (r : Bool) : R2 := fun x y H Q => ∃ a b ks ls, x = .ref a ∧ y = .ref b ∧ H a = some (.dK ks) ∧ H b = some (.dK ls) ∧
  ((ks.length = ls.length ∧ (∀ p ∈ ks, valV ls p.1 = some p.2 ∧ (flatB p.2 = true ∨ ∃ a, p.2 = .ref a)) ∧ Q (.bl r) H) ∨ (ks.length ≠ ls.length ∧ Q (.bl (!r)) H))
theorem gc_ne_dict (hu : X.A.units < cLine) : OpR X (compareOp .NotEq) (rDictSame false) := by
  intro pins s σ H x y v u Q I rx ry h
  obtain ⟨a, b, ks, ls, rfl, rfl, ea, eb, h⟩ := h
  obtain rfl : v = Value.ref a := rx
  obtain rfl : u = Value.ref b := ry
  obtain ⟨_, ya, va, ra, da⟩ := (show ObjOk X.prog X.w H s.heap a (.dK ks) from I.hok a _ ea)
  obtain ⟨_, yb, vb, rb, db⟩ := (show ObjOk X.prog X.w H s.heap b (.dK ls) from I.hok b _ eb)
  have l1 := ra.length
  have l2 := rb.length
  rcases h with ⟨hlen, hp, q⟩ | ⟨hlen, q⟩
  · have hl : va.length = vb.length := by rw [← l1, ← l2]; exact hlen
    exact PySem.W.keq_ne (knd := mixKind X.prog X.w) (r := true) ya yb da db hu (fun _ => hits_same rb ra hp) (fin_bl I q (by simp [hl]))
  · have hl : va.length ≠ vb.length := by rw [← l1, ← l2]; exact hlen
    exact PySem.W.keq_ne (knd := mixKind X.prog X.w) (r := true) ya yb da db hu (fun z => absurd z hl) (fin_bl I q (by simp [hl]))
theorem gc_eq_dict (hu : X.A.units < cLine) : OpR X (compareOp .Eq) (rDictSame true) := by
  intro pins s σ H x y v u Q I rx ry h
  obtain ⟨a, b, ks, ls, rfl, rfl, ea, eb, h⟩ := h
  obtain rfl : v = Value.ref a := rx
  obtain rfl : u = Value.ref b := ry
  obtain ⟨_, ya, va, ra, da⟩ := (show ObjOk X.prog X.w H s.heap a (.dK ks) from I.hok a _ ea)
  obtain ⟨_, yb, vb, rb, db⟩ := (show ObjOk X.prog X.w H s.heap b (.dK ls) from I.hok b _ eb)
  have l1 := ra.length
  have l2 := rb.length
  rcases h with ⟨hlen, hp, q⟩ | ⟨hlen, q⟩
  · have hl : va.length = vb.length := by rw [← l1, ← l2]; exact hlen
    exact PySem.W.keq_eq (knd := mixKind X.prog X.w) (r := true) ya yb da db hu (fun _ => hits_same rb ra hp) (fin_bl I q (by simp [hl]))
  · have hl : va.length ≠ vb.length := by rw [← l1, ← l2]; exact hlen
    exact PySem.W.keq_eq (knd := mixKind X.prog X.w) (r := true) ya yb da db hu (fun z => absurd z hl) (fin_bl I q (by simp [hl]))
end
section
variable {K : PySem.W.Frag} {σ : L2.St} {H H' : Hp} {ta tb te td tk tv : TE} {x y v : V}
def rDictCopy : List V → Hp → VK → Prop := fun xs H Q => ∃ (a : Addr) (kvs : List (Key × V)), xs = [.ref a] ∧ Rd H a (.dK kvs) ∧ ∀ p, H p = none → Q (.ref p) (upd H p (.dK kvs))
theorem x_dcopy {a : Addr} {kvs : List (Key × V)} (h : Ev ta σ H (.ref a)) (hd : H a = some (.dK kvs)) : EvX (tCB rDictCopy (tCons ta tNil)) σ H (Nw H (.dK kvs)) := fun H1 e Q q =>
  h H1 e _ fun H2 e2 => ⟨a, kvs, rfl, .inl (e2 _ _ (e _ _ hd)), fun p hp => q _ _ (e2.trans (Ex.new hp)) ⟨p, rfl, fresh_back e (fresh_back e2 hp), upd_same⟩⟩
end
section
variable {K : PySem.W.Frag} {σ : L2.St} {H H' : Hp} {ta tb te td tk tv : TE} {x y v : V} {D : Ends} {tz : TS} {P P1 P2 : VP}
theorem x_tup2X [Mono P1] [Mono P2] (h1 : EvX ta σ H P1) (h2 : EvX tb σ H P2) : EvX (tTup (tCons ta (tCons tb tNil))) σ H (fun v H2 => ∃ p a b, v = .ref p ∧ H p = none ∧ H2 p = some (.tup [a, b]) ∧ P1 a H2 ∧ P2 b H2) := fun H1 e Q q =>
  h1 H1 e _ fun a H2 e2 ha => h2 H2 (e.trans e2) _ fun b H3 e3 hb => ⟨Nat.le_of_ble_eq_true rfl, fun p hp => q _ _ ((e2.trans e3).trans (Ex.new hp)) ⟨p, a, b, rfl, fresh_back e (fresh_back (e2.trans e3) hp), upd_same, Mono.mono (e3.trans (Ex.new hp)) ha, Mono.mono (Ex.new hp) hb⟩⟩
theorem qx_setL {l : Addr} {xs : List V} {j : Nat} (hl : H l = some (.lst xs)) (h : EvX te σ H P) (ho : Ev ta σ H (.ref l)) (hi : Ev tb σ H (.int (j : Int))) (hj : j < xs.length) (hm : ∀ v H1 H2, Ex H1 H2 → P v H1 → P v H2) (k : ∀ v H1, Ex H H1 → P v H1 → tz D σ (upd H1 l (.lst (xs.set j v)))) :
    tSeq (tAsg te (gSub ta tb rSetL)) tz D σ H := h H (Ex.refl H) _ fun v H1 e1 hv => ho H1 e1 _ fun H2 e2 => hi H2 (e1.trans e2) _ fun H3 e3 =>
  ⟨l, xs, (j : Int), j, rfl, rfl, ((e1.trans e2).trans e3) l _ hl, ixN_nat hj, k v H3 ((e1.trans e2).trans e3) (hm v H1 H3 (e2.trans e3) hv)⟩
theorem s_dput {d : Addr} {kvs : List (Key × V)} {k : Key} (hv : Ev tv σ H v) (hd : Ev td σ H (.ref d)) (hk : Ev tk σ H (kV k)) (h : H d = some (.dK kvs)) (hl : kvs.length < 100000) (c : ∀ H1, Ex H H1 → D.nx σ (upd H1 d (.dK (putK kvs k v)))) : sDPut td tk tv D σ H :=
  hv H (Ex.refl H) _ fun H1 e1 => hd H1 e1 _ fun H2 e2 => hk H2 (e1.trans e2) _ fun H3 e3 => ⟨d, _, rfl, DPut.k (((e1.trans e2).trans e3) _ _ h) (sz_lt hl), c H3 ((e1.trans e2).trans e3)⟩
theorem rv_neDict {a b : Addr} {ks ls : List (Key × V)} (h1 : H a = some (.dK ks)) (h2 : H b = some (.dK ls)) (hl : ks.length = ls.length) (hp : ∀ p ∈ ks, valV ls p.1 = some p.2 ∧ (flatB p.2 = true ∨ ∃ a, p.2 = .ref a)) : RV (rDictSame false) (.ref a) (.ref b) H (.bl false) := fun H1 e _ q =>
  ⟨a, b, ks, ls, rfl, rfl, e _ _ h1, e _ _ h2, .inl ⟨hl, hp, q H1 (Ex.refl H1)⟩⟩
end

/-! ### enumerate(d), d a dict that stays as it is -/
section
variable {prog : Program} {w : World} {A : Around} {E : Value → Shared → Prop} {s : Shared}
set_option maxHeartbeats 2000000 in
theorem enum_meets {v : Value} {ob : Obj} {G : Heap → Prop} (B : PySem.Begins v ob G) : PySem.Meets (Builtin.«enumerate.__new__» ⟨[.type "enumerate", v], []⟩) (fun _ R s => G s.heap ∧
      R (.ok (.ret (.ref (s.heap.push ob).objs.size))) { s with heap := (s.heap.push ob).push { cls := .type "enumerate", data := .fields #[.none, .bool false, .ref s.heap.objs.size, rawInt 0, .none, .none] } }) :=
  .of_wp fun prog w A R s hh => by
    obtain ⟨hp, gg, dd, tt, oo⟩ := s
    obtain ⟨hg, hR⟩ := hh
    have hsub := sub_enumerate
    have begin_ : ∀ {A' : Around} {E' : Value → Shared → Prop} {Q' : Value → Shared → Prop}, Q' (.ref hp.objs.size) ⟨hp.push ob, gg, dd, tt, oo⟩ → wpAny (model prog w) A' (pyIter v) Q' E' ⟨hp, gg, dd, tt, oo⟩ := fun q => B.iter prog w _ _ ⟨hp, gg, dd, tt, oo⟩ _ hg q
    wp_walk using begin_
    refine wpAny_stack_any fun st => (wpAny_pure ?_)
    split
    · rename_i cc _ _ _ _ _
      cases (cc == Value.type "enumerate") <;> (wp_walk using begin_; exact ⟨_, rfl, hR⟩)
    · wp_walk using begin_
      exact ⟨_, rfl, hR⟩
theorem enum_call {v : Value} {ob : Obj} {G : Heap → Prop} {Q : Value → Shared → Prop} (B : PySem.Begins v ob G) (hg : G s.heap)
    (k : ∀ h', IsEnum h' (s.heap.objs.size + 1) s.heap.objs.size 0 .none → h'.get? s.heap.objs.size = some ob → (∀ b o, s.heap.get? b = some o → h'.get? b = some o) → Q (.ref (s.heap.objs.size + 1)) { s with heap := h' }) :
    wpAny (model prog w) A (call (.type "enumerate") [v]) Q E s := by
  refine callType_new F.called_enumerate (by decide) (F.typeCall_enumerate_1 _) (F.newCall_enumerate_1 _) (fun obj => F.args_object_init_2 obj _) F.entry_enumerate_new (enum_meets B) ⟨hg, ?_⟩
  have size1 : (s.heap.push ob).objs.size = s.heap.objs.size + 1 := (Heap.size_push ..)
  show _ ∧ _
  rw [size1]
  have isE : IsEnum ((s.heap.push ob).push { cls := .type "enumerate", data := .fields #[.none, .bool false, .ref s.heap.objs.size, rawInt 0, .none, .none] }) (s.heap.objs.size + 1) s.heap.objs.size 0 .none := by
    have z := Heap.get?_push_size (s.heap.push ob) (o := { cls := .type "enumerate", data := .fields #[.none, .bool false, .ref s.heap.objs.size, rawInt 0, .none, .none] }) rfl
    rw [size1] at z
    exact z
  exact ⟨⟨_, isE, rfl⟩, k _ isE (Heap.get?_push_of_some _ (Heap.get?_push_size _ B.free)) fun b o e => Heap.get?_push_of_some _ (Heap.get?_push_of_some _ e)⟩
theorem begins_keys {d : Addr} {od : Obj} {es : Array DictEntry} {ep : Nat} (lo : (d == sysModules) = false) (hx : od.ExactDict) (hdt : od.data = .dict es ep) :
    PySem.Begins (.ref d) { cls := .type "dict_keyiterator", data := .fields #[.ref d, .int 0 0, .int es.size 0, .int ep 0] } (fun h => h.get? d = some od) where
  iter := fun prog w A E s Q hg hq => iter_keys lo hg hx hdt hq
  keeps := fun h h' hg hk => hk d od hg
  free := rfl
/-- next of the keys' iterator, as a built-in asks it -/
theorem keys_next {it d : Addr} {i n ep : Nat} {od : Obj} {es : Array DictEntry} {en : DictEntry} {Q : Value → Shared → Prop} (hit : s.heap.IsKeyIter it d i n ep) (hg : s.heap.get? d = some od) (hdt : od.data = .dict es ep)
    (hsz : es.size = n) (hx : es[i]? = some en) (k : ∀ h', h'.IsKeyIter it d (i + 1) n ep → Heap.SameBut it s.heap h' → Q en.key { s with heap := h' }) : wpAny (model prog w) A (Builtin.SmallTypes.nextOf (.ref it)) Q E s := by
  obtain ⟨oi, goi, clsi, dati⟩ := id hit
  unfold Builtin.SmallTypes.nextOf
  refine wpAny_bind (wpAny_callSpecial?_slot (name := Str.ofString "__next__") hit.typeIs F.slot_dict_keyiterator_next (wpAny_call_entry F.slot_dict_keyiterator_next hit.typeIs F.entry_dict_keyiterator_next ?_ (F.args_dict_keyiterator_next_1 _)))
  refine wpAny_bind (wpAny_pure (wpAny_bind (wpAny_bind ?_)))
  first | refine wpAny_bind (wpAny_typeNameOfWhole_keyiter hit.typeIs (wpAny_pure (wpAny_bind (wpAny_fieldsOf goi dati ?_)))) | refine wpAny_bind (wpAny_typeNameOf_keyiter hit.typeIs (wpAny_pure (wpAny_bind (wpAny_fieldsOf goi dati ?_))))
  have notOwn : Builtin.Dict_items.ownsTuple "dict_keyiterator" = false := (by decide)
  simp only [notOwn, Bool.false_eq_true, ite_false, if_false]
  show wpAny _ _ (if (Value.ref d == Value.none) = true then _ else (_ : Sem _)) _ _ s
  rw [if_neg (show ¬ ((Value.ref d == Value.none) = true) from (Bool.false_ne_true))]
  refine wpAny_bind (wpAny_pure (wpAny_bind (wpAny_dictEntries hg hdt ?_)))
  rw [if_neg (by rw [hsz]; simp)]
  refine wpAny_bind (wpAny_pure (wpAny_bind (wpAny_dictEpoch hg hdt ?_)))
  rw [if_neg (by simp)]
  obtain ⟨lt', en'⟩ := Array.getElem?_eq_some_iff.mp hx
  refine wpAny_pure ?_
  simp only [show ¬ ((i : Int) < 0) from (by omega), if_false, Int.toNat_natCast, Array.getElem?_eq_getElem lt']
  refine wpAny_bind ?_
  first | refine wpAny_bind (wpAny_typeNameOfWhole_keyiter hit.typeIs (wpAny_pure (wpAny_bind (wpAny_isOneOf_keyiter hit.typeIs ?_)))) | refine wpAny_bind (wpAny_typeNameOf_keyiter hit.typeIs (wpAny_pure (wpAny_bind (wpAny_isOneOf_keyiter hit.typeIs ?_))))
  show wpAny _ _ (setField (.ref it) 1 (rawInt ((i : Int) + 1)) >>= (_ : _ → Sem _)) _ _ s
  refine wpAny_bind (wpAny_setField goi dati (by simp) ?_)
  have it' : (s.heap.update it (Obj.mapFields (·.setIfInBounds 1 (rawInt ((i : Int) + 1))))).IsKeyIter it d (i + 1) n ep := ⟨_, Heap.get?_update_self _ goi (Obj.isFreed_of_fields (Obj.data_mapFields dati _)), (Obj.cls_mapFields ..).trans clsi, (by rw [Obj.data_mapFields dati]; simp [rawInt])⟩
  refine wpAny_bind (wpAny_holding (wpAny_bind (wpAny_isOneOf_keyiter (s := { s with heap := s.heap.update it (Obj.mapFields (·.setIfInBounds 1 (rawInt ((i : Int) + 1)))) }) it'.typeIs ?_)))
  show wpAny _ _ (pure es[i].key) _ _ _
  rw [en']
  exact wpAny_pure (wpAny_pure ⟨_, rfl, wpAny_pure (k _ it' (Heap.SameBut.update ..))⟩)
theorem keys_done {it d : Addr} {i n ep : Nat} {od : Obj} {es : Array DictEntry} {Q : Value → Shared → Prop} (hh : A.handled = none) (hit : s.heap.IsKeyIter it d i n ep) (hg : s.heap.get? d = some od) (hdt : od.data = .dict es ep)
    (hsz : es.size = n) (hge : n ≤ i) (k : ∀ h' e, Heap.ExtBut it s.heap h' → (∃ o, h'.get? e = some o ∧ o.cls = .type "StopIteration") → E (.ref e) { s with heap := h' }) : wpAny (model prog w) A (Builtin.SmallTypes.nextOf (.ref it)) Q E s := by
  obtain ⟨oi, goi, clsi, dati⟩ := id hit
  unfold Builtin.SmallTypes.nextOf
  refine wpAny_bind (wpAny_callSpecial?_slot (name := Str.ofString "__next__") hit.typeIs F.slot_dict_keyiterator_next (wpAny_call_entry F.slot_dict_keyiterator_next hit.typeIs F.entry_dict_keyiterator_next ?_ (F.args_dict_keyiterator_next_1 _)))
  refine wpAny_bind (wpAny_pure (wpAny_bind (wpAny_bind ?_)))
  first | refine wpAny_bind (wpAny_typeNameOfWhole_keyiter hit.typeIs (wpAny_pure (wpAny_bind (wpAny_fieldsOf goi dati ?_)))) | refine wpAny_bind (wpAny_typeNameOf_keyiter hit.typeIs (wpAny_pure (wpAny_bind (wpAny_fieldsOf goi dati ?_))))
  have notOwn : Builtin.Dict_items.ownsTuple "dict_keyiterator" = false := (by decide)
  simp only [notOwn, Bool.false_eq_true, ite_false, if_false]
  show wpAny _ _ (if (Value.ref d == Value.none) = true then _ else (_ : Sem _)) _ _ s
  rw [if_neg (show ¬ ((Value.ref d == Value.none) = true) from (Bool.false_ne_true))]
  refine wpAny_bind (wpAny_pure (wpAny_bind (wpAny_dictEntries hg hdt ?_)))
  rw [if_neg (by rw [hsz]; simp)]
  refine wpAny_bind (wpAny_pure (wpAny_bind (wpAny_dictEpoch hg hdt ?_)))
  rw [if_neg (by simp)]
  have ge' : es.size ≤ i := (by rw [hsz]; exact hge)
  refine wpAny_pure ?_
  simp only [show ¬ ((i : Int) < 0) from (by omega), if_false, Int.toNat_natCast, Array.getElem?_eq_none ge']
  refine wpAny_bind ?_
  first | refine wpAny_bind (wpAny_typeNameOfWhole_keyiter hit.typeIs (wpAny_pure (?_ : wpAny _ _ (setField (.ref it) 0 .none >>= _) _ _ s))) | refine wpAny_bind (wpAny_typeNameOf_keyiter hit.typeIs (wpAny_pure (?_ : wpAny _ _ (setField (.ref it) 0 .none >>= _) _ _ s)))
  refine wpAny_bind (wpAny_setField goi dati (by simp) (?_ : wpAny _ _ (newExc (.type "StopIteration") [] >>= _) _ _ _))
  refine wpAny_bind ?_
  simp only [newExc, newTuple]
  refine wpAny_bind (wpAny_newObj_type (wpAny_bind (m := firstArgMember _ _) (wpAny_of_eq (a := Value.none) (by first | rfl | (simp only [firstArgMember]; rfl)) (wpAny_newObj_type ?_ (by size_fits)))) (by size_fits))
  simp only [raiseNew]
  refine wpAny_bind (wpAny_handled ?_)
  first | rw [show A.in1.handled = none from hh] | rw [hh]
  exact wpAny_bind (wpAny_pure (wpAny_throw (k _ _ (((Heap.SameBut.update ..).extBut.push _).push _) ⟨_, Heap.get?_push_size _ rfl, rfl⟩)))
theorem draws_keys {P : Program} {w : World} {A : Around} (hh : A.handled = none) {it d : Addr} {od : Obj} {es : Array DictEntry} {ep n : Nat} (hne : d ≠ it) (hdt : od.data = .dict es ep) (hsz : es.size = n) :
    PySem.Draws P w A it [it, d] n (fun i v => ∃ en, es[i]? = some en ∧ v = en.key) (fun i h => h.IsKeyIter it d i n ep ∧ h.get? d = some od) where
  live := fun _ _ st => let ⟨o, ho, _⟩ := st.1; ⟨o, ho⟩
  frame := fun _ _ _ st hk => ⟨st.1.at fun o e => hk it (by simp) o e, hk d (by simp) od st.2⟩
  item := fun i s Q E hi st hQ => keys_next st.1 st.2 hdt hsz (Array.getElem?_eq_getElem (by omega)) fun h' hit' sb => hQ _ h' s.toks ⟨_, Array.getElem?_eq_getElem (by omega), rfl⟩ ⟨hit', (sb.2 d hne).trans st.2⟩ sb
  done := fun s Q E st hE => keys_done hh st.1 st.2 hdt hsz (Nat.le_refl _) hE
end
/-- the turns of enumerate over a locked dict: a new pair of the turn and the key -/
def ItED (d : Addr) (o : Obj) (kvs : List (Key × V)) : It :=
  ⟨fun i H => H d = some (.frz o (.dK kvs)) ∧ i < kvs.length, fun i H v H' => ∃ T k u, v = .ref T ∧ H T = none ∧ H' = upd H T (.tup [.int (i : Nat), kV k]) ∧ kvs[i]? = some (k, u), fun i H => H d = some (.frz o (.dK kvs)) ∧ kvs.length ≤ i⟩
theorem walk_enumD {d : Addr} {o : Obj} {kvs : List (Key × V)} : Walk (ItED d o kvs) kvs.length (fun H => H d = some (.frz o (.dK kvs))) (fun i H v H' => ∃ T k u, v = .ref T ∧ H T = none ∧ H' = upd H T (.tup [.int (i : Nat), kV k]) ∧ kvs[i]? = some (k, u)) :=
  ⟨fun _ _ hi q => ⟨q, hi⟩, fun _ q => ⟨q, Nat.le_refl _⟩, fun _ _ _ _ _ _ y => y⟩
theorem turn_enumD {P : Program} {w : World} {K : PySem.W.Frag} {elts : List Expr} {kk : Nat} {tpos : Pos} {d e it : Addr} {o : Obj} {es : Array DictEntry} {ep : Nat} {kvs : List (Key × V)} (hod : o.data = .dict es ep) (hei : e ≠ it) (hdi : d ≠ it) (hed : e ≠ d) :
    Turn P w K (.Tuple elts kk tpos) (ItED d o kvs) [e, it] e (fun i h => (∃ old, IsEnum h e it ((i : Nat) : Int) old) ∧ h.IsKeyIter it d i kvs.length ep) where
  mem := List.mem_cons_self
  obj := fun i h st b hb => by
    obtain ⟨⟨old, he⟩, ⟨oi, hoi, _, hdi⟩⟩ := st
    rcases List.mem_cons.mp hb with z | z
    · rw [z]
      exact ⟨_, he, fun v q => nomatch q⟩
    · rw [List.mem_singleton.mp z]
      exact ⟨oi, hoi, fun v q => by rw [hdi] at q; cases q⟩
  keep := fun i h h' st k => by
    obtain ⟨⟨old, he⟩, hi⟩ := st
    exact ⟨⟨old, k e List.mem_cons_self _ he⟩, hi.at fun oi q => k it (List.mem_cons_of_mem _ List.mem_cons_self) oi q⟩
  item := by
    intro X hP hw hK hc i pins s σ H E I hf st hg
    subst hP hw hK
    obtain ⟨⟨old, he⟩, hit⟩ := st
    obtain ⟨hd, hi⟩ := hg
    obtain ⟨_, hgd, hx, es', ep', vs, hdt, hsz, kv, o', es2, hgd2, _, hdt2, hkeys, hpairs, _⟩ := I.frzK hd
    obtain ⟨rfl, rfl⟩ := dict_ep hod hdt
    obtain rfl : o' = o := Option.some.inj (hgd2.symm.trans hgd)
    obtain ⟨rfl, _⟩ := dict_ep hdt hdt2
    obtain ⟨k, v, hkv⟩ : ∃ k v, kvs[i]? = some (k, v) := ⟨kvs[i].1, kvs[i].2, List.getElem?_eq_getElem hi⟩
    obtain ⟨u, hu, ru⟩ := kv_get kv hkv
    have hel : e < s.heap.objs.size := Heap.lt_size he
    have hil : it < s.heap.objs.size := by obtain ⟨_, q, _⟩ := id hit; exact Heap.lt_size q
    have D := draws_keys (P := X.prog) (w := X.w) (A := X.A.in1) (I.ok.hd hc) (n := kvs.length) hdi hod hsz
    have hef : e ∉ [it, d] := fun h => by
      rcases List.mem_cons.mp h with z | z
      · exact hei z
      · exact hed (List.mem_singleton.mp z)
    refine wpAny_pyNext_enum_itemC D he ⟨hit, hgd⟩ hi hei hef fun x h' tk hPx ho st' hT hsz' hk => ?_
    obtain ⟨en, hen, rfl⟩ := hPx
    have hkey : keyIs k en.key = true := (hpairs.get? (e := en) (by rw [Array.getElem?_toList]; exact hen) hu).1
    refine ⟨_, rfl, wpAny_letOwnedTupleGo_enum (s := { s with heap := h', toks := tk + 1 }) ho fun h2 he2 sb => ?_⟩
    have hT2 : h2.get? s.heap.objs.size = some { cls := .type "tuple", data := .seq #[.int i tk, en.key] } := ((sb.2 _ (Nat.ne_of_gt hel)).trans hT)
    have new : ObjOk X.prog X.w (upd H s.heap.objs.size (.tup [.int (i : Nat), kV k])) h2 s.heap.objs.size (.tup [.int (i : Nat), kV k]) := ⟨by show (2 : Nat) ≤ sizeLine; decide, [.int i tk, en.key], .cons ⟨_, rfl⟩ (.cons (relV_key hkey) .nil), ⟨_, hT2, rfl, _, rfl⟩⟩
    have I1 : Inv X pins σ (upd H s.heap.objs.size (.tup [.int (i : Nat), kV k])) { s with heap := h2, toks := tk + 1 } :=
      I.turnedNew (ch := [e, it]) (fun b ob hb q => (sb.2 b (fun z => hb (by rw [z]; exact List.mem_cons_self))).trans (hk b ob (fun z => hb (by rw [z]; exact List.mem_cons_self)) (fun z => hb (by rw [z]; exact List.mem_cons_of_mem _ List.mem_cons_self)) q)) hf (Nat.le_refl _) new
    refine ⟨.ref s.heap.objs.size, _, I1, rfl, ⟨_, k, v, rfl, I.hok.fresh (Nat.le_refl _), rfl, hkv⟩, ⟨⟨en.key, ?_⟩, st'.1.at fun oi q => (sb.2 it (Ne.symm hei)).trans q⟩, fun b hb => ?_⟩
    · rw [show ((i + 1 : Nat) : Int) = (i : Int) + 1 from by omega]
      exact he2
    · have hb' : b < s.heap.objs.size := by
        rcases List.mem_cons.mp hb with z | z
        · rw [z]; exact hel
        · rw [List.mem_singleton.mp z]; exact hil
      rw [upd_ne (Nat.ne_of_lt hb')]
      exact (hf b hb).1
  done := by
    intro X hP hw hK hc i pins s σ H E I hf st hg
    subst hP hw hK
    obtain ⟨⟨old, he⟩, hit⟩ := st
    obtain ⟨hd, hge⟩ := hg
    obtain ⟨_, hgd, hx, es', ep', vs, hdt, hsz', kv, _⟩ := I.frzK hd
    have hsz : es.size = kvs.length := by rw [← (dict_ep hod hdt).1]; exact hsz'
    obtain ⟨f0, f1, f2, f3, f4, f5⟩ := hf it (List.mem_cons_of_mem _ List.mem_cons_self)
    have D0 : PySem.Draws X.prog X.w X.A.in1 it [it, d] i (fun _ _ => False) (fun j h => j = i ∧ h.IsKeyIter it d i kvs.length ep ∧ h.get? d = some o) :=
      { live := fun _ _ st => let ⟨q, hq, _⟩ := st.2.1; ⟨q, hq⟩
        frame := fun _ _ _ st hk => ⟨st.1, st.2.1.at fun q e => hk it (by simp) q e, hk d (by simp) o st.2.2⟩
        item := fun j s Q E hj st _ => absurd st.1 (Nat.ne_of_lt hj)
        done := fun s Q E st hE => keys_done (I.ok.hd hc) st.2.1 st.2.2 hod hsz hge hE }
    exact wpAny_pyNext_enum_endD D0 he ⟨rfl, hit, hgd⟩ fun h' eb => ⟨rfl, I.turned (t' := s.toks) (fun b ob hb q => eb b ob hb q) f0 f1 f3 f4 f5⟩
  self := fun A i s Q E st h => let ⟨⟨_, he⟩, _⟩ := st; wpAny_pyIter_enum he h
/-- enumerate(d): the dict is locked -/
def iEnumD (ta : TA) : TI := fun σ H R => ta σ H fun vs H1 => ∃ d o kvs, vs = [.ref d] ∧ H1 d = some (.frz o (.dK kvs)) ∧ R (ItED d o kvs) H1
theorem pi_enumD {X : Cx} {e : Expr} {ta : TA} {p pos tpos : Pos} {elts : List Expr} {kk : Nat} (hg : Gl X "enumerate") (hm : X.mg "enumerate" = none) (ha : PA X [e] ta) (hs : starEach [e] X.env = [(false, eval e X.env)] := by rfl) :
    PI X (.Tuple elts kk tpos) (.Call (.Name "enumerate" p) [e] [] pos) (iEnumD ta) := by
  refine ⟨fun pins s σ H R I h => ?_⟩
  refine PyProof.Rows.Call_ (ld_blt I hg hm PyProof.Rows.boot_enumerate (PyProof.Rows.callWith_type1 (thn (ha.run pos pins s σ H _ I h) fun us s1 ⟨vs, H1, I1, r1, q1⟩ => ?_) hs rfl))
  obtain ⟨d, o, kvs, ex, hd, q⟩ := q1
  subst ex
  obtain ⟨u, rfl, ru⟩ := vals1 r1
  cases (show u = Value.ref d from ru)
  obtain ⟨lo, hgd, hx, es, ep, vs', hdt, hsz, kv, _⟩ := I1.frzK hd
  have hdl : d < s1.heap.objs.size := Heap.lt_size hgd
  refine enum_call (begins_keys lo hx hdt) hgd fun h' he hit hk => wpAny_pyIter_enum he ?_
  have I2 : Inv X pins σ H1 { s1 with heap := h' } := I1.kept (t' := s1.toks) hk
  refine ⟨s1.heap.objs.size + 1, [s1.heap.objs.size + 1, s1.heap.objs.size], _, _, H1, rfl, I2, turn_enumD hdt (Nat.succ_ne_self _) (Nat.ne_of_lt hdl) (Ne.symm (Nat.ne_of_lt (Nat.lt_succ_of_lt hdl))), ⟨⟨.none, he⟩, ⟨_, hit, rfl, by rw [hsz] <;> rfl⟩⟩, fun b hb => ?_, q⟩
  have hle : s1.heap.objs.size ≤ b := by
    rcases List.mem_cons.mp hb with z | z
    · rw [z]; exact Nat.le_add_right _ _
    · rw [List.mem_singleton.mp z]; exact Nat.le_refl _
  exact I1.fpOk hle (I1.hok.fresh hle)

/-! ### pages: names with shares -/
abbrev Nm := List Nat
abbrev Pg := List (Nm × Int × Int)
def EntV (K : PySem.W.Frag) (H : Hp) (kv : Key × V) (e : Nm × Int × Int) : Prop := kv.1 = .inr (ofL e.1) ∧ ∃ q, kv.2 = .ref q ∧ SqT K H q [.int e.2.1, .int e.2.2]
def PgV (K : PySem.W.Frag) (H : Hp) : List (Key × V) → Pg → Prop := Paired (EntV K H)
def getP (p : Pg) (n : Nm) : Option (Int × Int) := (p.find? fun e => decide (e.1 = n)).map (·.2)
def putP (p : Pg) (n : Nm) (s : Int × Int) : Pg := if (p.any fun e => decide (e.1 = n)) = true then p.map (fun e => if e.1 = n then (e.1, s) else e) else p ++ [(n, s)]
def NmOk (n : Nm) : Prop := 1 ≤ n.length ∧ n.length ≤ 8 ∧ ∀ x ∈ n, x < 1114112
theorem ofL_inj {a b : List Nat} (h : ofL a = ofL b) : a = b := by
  have := congrArg (fun z : Str => z.cps.toList) h
  exact this
theorem key_dec (a b : Nm) : decide ((Sum.inr (ofL a) : Key) = .inr (ofL b)) = decide (a = b) := decide_eq_decide.mpr ⟨fun h => ofL_inj (Sum.inr.inj h), fun h => by rw [h]⟩
section
variable {K : PySem.W.Frag} {H H' : Hp} {kvs : List (Key × V)} {p : Pg}
theorem EntV.mono {kv : Key × V} {e : Nm × Int × Int} (x : Ex H H') (h : EntV K H kv e) : EntV K H' kv e := ⟨h.1, let ⟨q, a, b⟩ := h.2; ⟨q, a, ex_t x b⟩⟩
theorem PgV.to (f : ∀ q xs, SqT K H q xs → SqT K H' q xs) (h : PgV K H kvs p) : PgV K H' kvs p := Paired.mapP h fun _ _ h => ⟨h.1, let ⟨q, a, b⟩ := h.2; ⟨q, a, f _ _ b⟩⟩
theorem PgV.mono (x : Ex H H') (h : PgV K H kvs p) : PgV K H' kvs p := h.to fun _ _ => ex_t x
theorem PgV.len (h : PgV K H kvs p) : kvs.length = p.length := Paired.length h
theorem PgV.any (n : Nm) (h : PgV K H kvs p) : (kvs.any fun kv => decide (kv.1 = .inr (ofL n))) = p.any fun e => decide (e.1 = n) := by
  unfold PgV at h
  induction h with
  | nil => rfl
  | cons h t ih => rw [List.any_cons, List.any_cons, ih, h.1, key_dec]
theorem PgV.get (n : Nm) (h : PgV K H kvs p) : (∃ q s, valV kvs (.inr (ofL n)) = some (.ref q) ∧ getP p n = some s ∧ SqT K H q [.int s.1, .int s.2]) ∨ (valV kvs (.inr (ofL n)) = none ∧ getP p n = none) := by
  unfold PgV at h
  induction h with
  | nil => exact .inr ⟨rfl, rfl⟩
  | @cons kv e kvs p h t ih =>
    obtain ⟨h1, q, h2, h3⟩ := h
    unfold valV getP
    rw [List.find?_cons, List.find?_cons, h1, key_dec]
    by_cases c : e.1 = n
    · rw [decide_eq_true c]
      exact .inl ⟨q, e.2, by show some kv.2 = _; rw [h2], rfl, h3⟩
    · rw [decide_eq_false c]
      exact ih
theorem PgV.snoc {n : Nm} {q : Addr} {s : Int × Int} (h : PgV K H kvs p) (hq : SqT K H q [.int s.1, .int s.2]) : PgV K H (kvs ++ [(.inr (ofL n), .ref q)]) (p ++ [(n, s)]) := by
  unfold PgV at h
  induction h with
  | nil => exact .cons ⟨rfl, q, rfl, hq⟩ .nil
  | cons h t ih => exact .cons h ih
theorem PgV.put {n : Nm} {q : Addr} {s : Int × Int} (h : PgV K H kvs p) (hq : SqT K H q [.int s.1, .int s.2]) : PgV K H (putK kvs (.inr (ofL n)) (.ref q)) (putP p n s) := by
  unfold putK putP
  rw [h.any n]
  split
  · unfold PgV at h
    induction h with
    | nil => exact .nil
    | @cons kv e kvs p h t ih =>
      rename_i c
      rw [List.map_cons, List.map_cons]
      refine .cons ?_ ?_
      · by_cases c : e.1 = n
        · rw [if_pos (by rw [h.1, c]), if_pos c]
          exact ⟨h.1, q, rfl, hq⟩
        · rw [if_neg (fun z => c (ofL_inj (Sum.inr.inj (h.1.symm.trans z)))), if_neg c]
          exact h
      · clear ih c h
        induction t with
        | nil => exact .nil
        | @cons kv e kvs p h t ih =>
          rw [List.map_cons, List.map_cons]
          refine .cons ?_ ih
          by_cases c : e.1 = n
          · rw [if_pos (by rw [h.1, c]), if_pos c]
            exact ⟨h.1, q, rfl, hq⟩
          · rw [if_neg (fun z => c (ofL_inj (Sum.inr.inj (h.1.symm.trans z)))), if_neg c]
            exact h
  · exact h.snoc hq
theorem PgV.keys (h : PgV K H kvs p) : kvs.map (·.1) = (p.map fun e => ofL e.1).map Sum.inr := by
  unfold PgV at h
  induction h with
  | nil => rfl
  | cons h t ih => rw [List.map_cons, List.map_cons, List.map_cons, ih, h.1]
theorem PgV.at {i : Nat} {kv : Key × V} (h : PgV K H kvs p) (hi : kvs[i]? = some kv) : ∃ e, p[i]? = some e ∧ EntV K H kv e := by
  unfold PgV at h
  induction h generalizing i with
  | nil => simp at hi
  | cons h t ih =>
    cases i with
    | zero =>
      obtain rfl := Option.some.inj hi
      exact ⟨_, rfl, h⟩
    | succ i => exact ih (by simpa using hi)
end
theorem putP_names (p : Pg) (n : Nm) (s : Int × Int) : (putP p n s).map (·.1) = if n ∈ p.map (·.1) then p.map (·.1) else p.map (·.1) ++ [n] := by
  unfold putP
  have e : (p.any fun e => decide (e.1 = n)) = decide (n ∈ p.map (·.1)) := by
    rw [Bool.eq_iff_iff, List.any_eq_true, decide_eq_true_iff, List.mem_map]
    constructor
    · rintro ⟨x, h1, h2⟩
      exact ⟨x, h1, of_decide_eq_true h2⟩
    · rintro ⟨x, h1, h2⟩
      exact ⟨x, h1, decide_eq_true h2⟩
  rw [e]
  by_cases h : n ∈ p.map (·.1)
  · rw [if_pos (decide_eq_true h), if_pos h, List.map_map]
    congr 1
    funext x
    show (if x.1 = n then (x.1, s) else x).1 = x.1
    split <;> rfl
  · rw [if_neg (by simpa using h), if_neg h, List.map_append]
    rfl
theorem putP_nd {p : Pg} {n : Nm} {s : Int × Int} (h : (p.map (·.1)).Nodup) : ((putP p n s).map (·.1)).Nodup := by
  rw [putP_names]
  split
  · exact h
  · rename_i c
    exact nd_snoc h c
theorem putP_len {p : Pg} {n : Nm} {s : Int × Int} : (putP p n s).length ≤ p.length + 1 := by
  have := congrArg List.length (putP_names p n s)
  rw [List.length_map] at this
  rw [this]
  split
  · rw [List.length_map]; omega
  · rw [List.length_append, List.length_map]; simp
theorem putP_ok {p : Pg} {n : Nm} {s : Int × Int} (h : ∀ e ∈ p, NmOk e.1) (hn : NmOk n) : ∀ e ∈ putP p n s, NmOk e.1 := by
  intro e he
  have : e.1 ∈ (putP p n s).map (·.1) := List.mem_map.mpr ⟨e, he, rfl⟩
  rw [putP_names] at this
  have hp : ∀ m ∈ p.map (·.1), NmOk m := fun m hm => by
    obtain ⟨x, h1, rfl⟩ := List.mem_map.mp hm
    exact h x h1
  split at this
  · exact hp _ this
  · rcases List.mem_append.mp this with h2 | h2
    · exact hp _ h2
    · rw [List.mem_singleton.mp h2]; exact hn
theorem getP_mem {p : Pg} (h : (p.map (·.1)).Nodup) : ∀ e ∈ p, getP p e.1 = some e.2 := by
  induction p with
  | nil => intro e he; cases he
  | cons a r ih =>
    intro e he
    rw [List.map_cons, List.nodup_cons] at h
    unfold getP
    rw [List.find?_cons]
    rcases List.mem_cons.mp he with rfl | he
    · rw [decide_eq_true rfl]
      rfl
    · rw [decide_eq_false (fun z => h.1 (by rw [z]; exact List.mem_map.mpr ⟨e, he, rfl⟩))]
      exact ih h.2 e he
/-- a page stands at d; it may be locked -/
def PgRd (K : PySem.W.Frag) (H : Hp) (d : Addr) (p : Pg) : Prop := ∃ kvs, Rd H d (.dK kvs) ∧ PgV K H kvs p ∧ (p.map (·.1)).Nodup ∧ (∀ e ∈ p, NmOk e.1) ∧ p.length ≤ 1000
def PgAt (K : PySem.W.Frag) (H : Hp) (d : Addr) (p : Pg) : Prop := ∃ kvs, H d = some (.dK kvs) ∧ PgV K H kvs p ∧ (p.map (·.1)).Nodup ∧ (∀ e ∈ p, NmOk e.1) ∧ p.length ≤ 1000
section
variable {K : PySem.W.Frag} {H H' : Hp} {d : Addr} {p : Pg}
theorem PgAt.rd (h : PgAt K H d p) : PgRd K H d p := let ⟨kvs, a, b⟩ := h; ⟨kvs, .inl a, b⟩
theorem PgRd.mono (x : Ex H H') (h : PgRd K H d p) : PgRd K H' d p := let ⟨kvs, a, b, c⟩ := h; ⟨kvs, ex_rd x a, b.mono x, c⟩
theorem PgAt.mono (x : Ex H H') (h : PgAt K H d p) : PgAt K H' d p := let ⟨kvs, a, b, c⟩ := h; ⟨kvs, x _ _ a, b.mono x, c⟩
end
section
variable {K : PySem.W.Frag} {H H' : Hp} {d : Addr}
theorem upd_t {q : Addr} {xs : List V} {kvs : List (Key × V)} {o : HO} (hd : H d = some (.dK kvs)) (h : SqT K H q xs) : SqT K (upd H d o) q xs := by
  rcases h with (h | ⟨o, h⟩) | h
  · exact .inl (.inl (by rw [upd_ne (ne_of h hd (by intro z; cases z))]; exact h))
  · exact .inl (.inr ⟨o, by rw [upd_ne (ne_of h hd (by intro z; cases z))]; exact h⟩)
  · exact .inr h
end

/-! ### who knows whom -/
def spk (f : Nm) (r : List Nm) : List (Nm × Nm) := r.map fun n => (f, n)
def callP : List Nm → List (Nm × Nm)
  | n1 :: n2 :: n3 :: n4 :: r => (spk n1 r ++ [(n1, n2), (n3, n4), (n1, n3), (n2, n4)]) ++ spk n1 r
  | [] => []
  | f :: r => spk f r ++ (spk f r).dropLast
abbrev Kw := Nm → Nm → Prop
def stp (S : Kw) (p : Nm × Nm) : Kw := fun x n => if x = p.1 ∨ x = p.2 then S p.1 n ∨ S p.2 n else S x n
def kn (S : Kw) (l : List (Nm × Nm)) : Kw := l.foldl stp S
theorem kn_app (S : Kw) (l m : List (Nm × Nm)) : kn S (l ++ m) = kn (kn S l) m := List.foldl_append
theorem stp_l (S : Kw) (a b n : Nm) : stp S (a, b) a n ↔ S a n ∨ S b n := by
  unfold stp
  rw [if_pos (.inl rfl)]
theorem stp_r (S : Kw) (a b n : Nm) : stp S (a, b) b n ↔ S a n ∨ S b n := by
  unfold stp
  rw [if_pos (.inr rfl)]
theorem stp_o {S : Kw} {a b x n : Nm} (h1 : x ≠ a) (h2 : x ≠ b) : stp S (a, b) x n ↔ S x n := by
  unfold stp
  rw [if_neg (by rintro (h | h); exact h1 h; exact h2 h)]
theorem spk_first {f : Nm} : ∀ {r : List Nm} {S : Kw}, r.Nodup → f ∉ r → (∀ n, kn S (spk f r) f n ↔ S f n ∨ ∃ m ∈ r, S m n) ∧ ∀ x, x ≠ f → x ∉ r → ∀ n, kn S (spk f r) x n ↔ S x n
  | [], S, _, _ => ⟨fun n => ⟨.inl, fun h => h.elim id fun ⟨m, hm, _⟩ => by cases hm⟩, fun x _ _ n => Iff.rfl⟩
  | m :: r, S, hn, hf => by
    rw [List.nodup_cons] at hn
    have hfm : f ≠ m := fun z => hf (by rw [z]; exact List.mem_cons_self)
    have hfr : f ∉ r := fun z => hf (List.mem_cons_of_mem _ z)
    obtain ⟨h1, h2⟩ := spk_first (r := r) (S := stp S (f, m)) hn.2 hfr
    have e : kn S (spk f (m :: r)) = kn (stp S (f, m)) (spk f r) := rfl
    refine ⟨fun n => ?_, fun x hx hxr n => ?_⟩
    · rw [e, h1, stp_l]
      constructor
      · rintro ((h | h) | ⟨m', hm', h⟩)
        · exact .inl h
        · exact .inr ⟨m, List.mem_cons_self, h⟩
        · rw [stp_o (fun z => hfr (by rw [← z]; exact hm')) (fun z => hn.1 (by rw [← z]; exact hm'))] at h
          exact .inr ⟨m', List.mem_cons_of_mem _ hm', h⟩
      · rintro (h | ⟨m', hm', h⟩)
        · exact .inl (.inl h)
        · rcases List.mem_cons.mp hm' with rfl | hm'
          · exact .inl (.inr h)
          · refine .inr ⟨m', hm', ?_⟩
            rw [stp_o (fun z => hfr (by rw [← z]; exact hm')) (fun z => hn.1 (by rw [← z]; exact hm'))]
            exact h
    · have hxm : x ≠ m := fun z => hxr (by rw [z]; exact List.mem_cons_self)
      rw [e, h2 x hx (fun z => hxr (List.mem_cons_of_mem _ z)), stp_o hx hxm]
theorem spk_second {f : Nm} {A : Nm → Prop} : ∀ {r : List Nm} {S : Kw}, r.Nodup → f ∉ r → (∀ n, S f n ↔ A n) → (∀ m ∈ r, ∀ n, S m n → A n) → (∀ x, x = f ∨ x ∈ r → ∀ n, kn S (spk f r) x n ↔ A n) ∧ ∀ x, x ≠ f → x ∉ r → ∀ n, kn S (spk f r) x n ↔ S x n
  | [], S, _, _, hA, _ => ⟨fun x hx n => (hx.elim (fun h => by rw [h]; exact hA n) (fun h => by cases h)), fun x _ _ n => Iff.rfl⟩
  | m :: r, S, hn, hf, hA, hs => by
    rw [List.nodup_cons] at hn
    have hfm : f ≠ m := fun z => hf (by rw [z]; exact List.mem_cons_self)
    have hfr : f ∉ r := fun z => hf (List.mem_cons_of_mem _ z)
    have both : ∀ n, S f n ∨ S m n ↔ A n := fun n => ⟨fun h => h.elim (hA n).mp (hs m List.mem_cons_self n), fun h => .inl ((hA n).mpr h)⟩
    obtain ⟨h1, h2⟩ := spk_second (r := r) (S := stp S (f, m)) (A := A) hn.2 hfr (fun n => by rw [stp_l]; exact both n) (fun m' hm' n h => by
      rw [stp_o (fun z => hfr (by rw [← z]; exact hm')) (fun z => hn.1 (by rw [← z]; exact hm'))] at h
      exact hs m' (List.mem_cons_of_mem _ hm') n h)
    have e : kn S (spk f (m :: r)) = kn (stp S (f, m)) (spk f r) := rfl
    refine ⟨fun x hx n => ?_, fun x hx hxr n => ?_⟩
    · rw [e]
      rcases hx with rfl | hx
      · exact h1 x (.inl rfl) n
      · rcases List.mem_cons.mp hx with rfl | hx
        · rw [h2 x (Ne.symm hfm) hn.1, stp_r]
          exact both n
        · exact h1 x (.inr hx) n
    · have hxm : x ≠ m := fun z => hxr (by rw [z]; exact List.mem_cons_self)
      rw [e, h2 x hx (fun z => hxr (List.mem_cons_of_mem _ z)), stp_o hx hxm]
theorem kn_sub {A : Nm → Prop} : ∀ {l : List (Nm × Nm)} {S : Kw}, (∀ p ∈ l, A p.1 ∧ A p.2) → (∀ x, A x → ∀ n, S x n → A n) → ∀ x, A x → ∀ n, kn S l x n → A n
  | [], S, _, hs => hs
  | p :: l, S, hp, hs => kn_sub (l := l) (S := stp S p) (fun q hq => hp q (List.mem_cons_of_mem _ hq)) fun x hx n h => by
    unfold stp at h
    have hpp := hp p List.mem_cons_self
    split at h
    · exact h.elim (hs _ hpp.1 n) (hs _ hpp.2 n)
    · exact hs x hx n h
def S0 : Kw := fun x n => n = x
theorem all_know {ns : List Nm} (hn : ns.Nodup) : ∀ x ∈ ns, ∀ n, kn S0 (callP ns) x n ↔ n ∈ ns := by
  match ns, hn with
  | [], _ => intro x hx; cases hx
  | [a], _ =>
    intro x hx n
    rw [List.mem_singleton.mp hx, List.mem_singleton]
    exact Iff.rfl
  | [a, b], hn =>
    have hab : a ≠ b := fun z => by simp [z] at hn
    intro x hx n
    show stp S0 (a, b) x n ↔ _
    simp only [List.mem_cons, List.not_mem_nil, or_false] at hx ⊢
    rcases hx with rfl | rfl
    · exact stp_l _ _ _ _
    · exact stp_r _ _ _ _
  | [a, b, c], hn =>
    have hab : a ≠ b := fun z => by simp [z] at hn
    have hac : a ≠ c := fun z => by simp [z] at hn
    have hbc : b ≠ c := fun z => by simp [z] at hn
    intro x hx n
    show stp (stp (stp S0 (a, b)) (a, c)) (a, b) x n ↔ _
    have h1 : stp (stp S0 (a, b)) (a, c) a n ↔ (n = a ∨ n = b) ∨ n = c := by
      rw [stp_l, stp_l, stp_o (Ne.symm hac) (Ne.symm hbc)]
      exact Iff.rfl
    have h2 : stp (stp S0 (a, b)) (a, c) b n ↔ n = a ∨ n = b := by
      rw [stp_o (Ne.symm hab) hbc, stp_r]
      exact Iff.rfl
    have h3 : stp (stp S0 (a, b)) (a, c) c n ↔ (n = a ∨ n = b) ∨ n = c := by
      rw [stp_r, stp_l, stp_o (Ne.symm hac) (Ne.symm hbc)]
      exact Iff.rfl
    have h4 : (stp (stp S0 (a, b)) (a, c) a n ∨ stp (stp S0 (a, b)) (a, c) b n) ↔ n = a ∨ n = b ∨ n = c := by
      rw [h1, h2]
      constructor
      · rintro ((( h | h) | h) | (h | h)) <;> simp [h]
      · rintro (h | h | h) <;> simp [h]
    simp only [List.mem_cons, List.not_mem_nil, or_false] at hx ⊢
    rcases hx with rfl | rfl | rfl
    · rw [stp_l]; exact h4
    · rw [stp_r]; exact h4
    · rw [stp_o (Ne.symm hac) (Ne.symm hbc), h3]
      constructor
      · rintro ((h | h) | h) <;> simp [h]
      · rintro (h | h | h) <;> simp [h]
  | n1 :: n2 :: n3 :: n4 :: r, hn =>
    have h12 : n1 ≠ n2 := fun z => by simp [z] at hn
    have h13 : n1 ≠ n3 := fun z => by simp [z] at hn
    have h14 : n1 ≠ n4 := fun z => by simp [z] at hn
    have h23 : n2 ≠ n3 := fun z => by simp [z] at hn
    have h24 : n2 ≠ n4 := fun z => by simp [z] at hn
    have h34 : n3 ≠ n4 := fun z => by simp [z] at hn
    simp only [List.nodup_cons, List.mem_cons, not_or] at hn
    obtain ⟨⟨_, _, _, r1⟩, ⟨_, _, r2⟩, ⟨_, r3⟩, r4, hr⟩ := hn
    have e : kn S0 (callP (n1 :: n2 :: n3 :: n4 :: r)) = kn (stp (stp (stp (stp (kn S0 (spk n1 r)) (n1, n2)) (n3, n4)) (n1, n3)) (n2, n4)) (spk n1 r) := by
      show kn S0 ((spk n1 r ++ [(n1, n2), (n3, n4), (n1, n3), (n2, n4)]) ++ spk n1 r) = _
      rw [kn_app, kn_app]
      rfl
    obtain ⟨f1, f2⟩ := spk_first (S := S0) hr r1
    have g1 : ∀ n, kn S0 (spk n1 r) n1 n ↔ n = n1 ∨ n ∈ r := fun n => by
      rw [f1]
      constructor
      · rintro (h | ⟨m, hm, h⟩)
        · exact .inl h
        · exact .inr (by rw [show n = m from h]; exact hm)
      · rintro (h | h)
        · exact .inl h
        · exact .inr ⟨n, h, rfl⟩
    have g2 : ∀ n, kn S0 (spk n1 r) n2 n ↔ n = n2 := fun n => f2 n2 (Ne.symm h12) r2 n
    have g3 : ∀ n, kn S0 (spk n1 r) n3 n ↔ n = n3 := fun n => f2 n3 (Ne.symm h13) r3 n
    have g4 : ∀ n, kn S0 (spk n1 r) n4 n ↔ n = n4 := fun n => f2 n4 (Ne.symm h14) r4 n
    have gs : ∀ m ∈ r, ∀ n, kn S0 (spk n1 r) m n → n ∈ n1 :: n2 :: n3 :: n4 :: r := fun m hm n h => by
      refine kn_sub (A := fun n => n ∈ n1 :: n2 :: n3 :: n4 :: r) (l := spk n1 r) (S := S0) (fun p hp => ?_) (fun x hx n h => ?_) m (by simp [hm]) n h
      · obtain ⟨k, hk, rfl⟩ := List.mem_map.mp hp
        exact ⟨List.mem_cons_self, by simp [hk]⟩
      · rw [show n = x from h]
        exact hx
    generalize kn S0 (spk n1 r) = T at e g1 g2 g3 g4 gs
    have b1 : ∀ n, stp (stp (stp (stp T (n1, n2)) (n3, n4)) (n1, n3)) (n2, n4) n1 n ↔ n ∈ n1 :: n2 :: n3 :: n4 :: r := fun n => by
      rw [stp_o h12 h14, stp_l, stp_o h13 h14, stp_l, stp_l, stp_o (Ne.symm h13) (Ne.symm h23), stp_o (Ne.symm h14) (Ne.symm h24), g1, g2, g3, g4]
      simp only [List.mem_cons]
      constructor
      · rintro (((h | h) | h) | (h | h)) <;> simp [h]
      · rintro (h | h | h | h | h) <;> simp [h]
    have b3 : ∀ n, stp (stp (stp (stp T (n1, n2)) (n3, n4)) (n1, n3)) (n2, n4) n3 n ↔ n ∈ n1 :: n2 :: n3 :: n4 :: r := fun n => by
      rw [stp_o (Ne.symm h23) h34, stp_r, stp_o h13 h14, stp_l, stp_l, stp_o (Ne.symm h13) (Ne.symm h23), stp_o (Ne.symm h14) (Ne.symm h24), g1, g2, g3, g4]
      simp only [List.mem_cons]
      constructor
      · rintro (((h | h) | h) | (h | h)) <;> simp [h]
      · rintro (h | h | h | h | h) <;> simp [h]
    have b24 : ∀ n, (stp (stp (stp T (n1, n2)) (n3, n4)) (n1, n3) n2 n ∨ stp (stp (stp T (n1, n2)) (n3, n4)) (n1, n3) n4 n) ↔ n ∈ n1 :: n2 :: n3 :: n4 :: r := fun n => by
      rw [stp_o (Ne.symm h12) h23, stp_o h23 h24, stp_r, stp_o (Ne.symm h14) (Ne.symm h34), stp_r, stp_o (Ne.symm h13) (Ne.symm h23), stp_o (Ne.symm h14) (Ne.symm h24), g1, g2, g3, g4]
      simp only [List.mem_cons]
      constructor
      · rintro (((h | h) | h) | (h | h)) <;> simp [h]
      · rintro (h | h | h | h | h) <;> simp [h]
    have b2 : ∀ n, stp (stp (stp (stp T (n1, n2)) (n3, n4)) (n1, n3)) (n2, n4) n2 n ↔ n ∈ n1 :: n2 :: n3 :: n4 :: r := fun n => by rw [stp_l]; exact b24 n
    have b4 : ∀ n, stp (stp (stp (stp T (n1, n2)) (n3, n4)) (n1, n3)) (n2, n4) n4 n ↔ n ∈ n1 :: n2 :: n3 :: n4 :: r := fun n => by rw [stp_r]; exact b24 n
    have bs : ∀ m ∈ r, ∀ n, stp (stp (stp (stp T (n1, n2)) (n3, n4)) (n1, n3)) (n2, n4) m n → n ∈ n1 :: n2 :: n3 :: n4 :: r := fun m hm n h => by
      have q1 : m ≠ n1 := fun z => r1 (by rw [← z]; exact hm)
      have q2 : m ≠ n2 := fun z => r2 (by rw [← z]; exact hm)
      have q3 : m ≠ n3 := fun z => r3 (by rw [← z]; exact hm)
      have q4 : m ≠ n4 := fun z => r4 (by rw [← z]; exact hm)
      rw [stp_o q2 q4, stp_o q1 q3, stp_o q3 q4, stp_o q1 q2] at h
      exact gs m hm n h
    rw [e]
    generalize stp (stp (stp (stp T (n1, n2)) (n3, n4)) (n1, n3)) (n2, n4) = U at b1 b2 b3 b4 bs
    obtain ⟨c1, c2⟩ := spk_second (A := fun n => n ∈ n1 :: n2 :: n3 :: n4 :: r) hr r1 b1 bs
    intro x hx n
    simp only [List.mem_cons] at hx
    rcases hx with rfl | rfl | rfl | rfl | hx
    · exact c1 x (.inl rfl) n
    · rw [c2 x (Ne.symm h12) r2]; exact b2 n
    · rw [c2 x (Ne.symm h13) r3]; exact b3 n
    · rw [c2 x (Ne.symm h14) r4]; exact b4 n
    · exact c1 x (.inr hx) n

def top (i : Nat) : Stmt := PySem.Challenge.pw_gossipcount_k11_whole_calls.main.body.getD i (.Pass ⟨0, 0, 0, 0⟩)
abbrev s_calls : Stmt := top 2
theorem sc_calls : FnScope ["names", "first", "second", "third", "fourth", "core", "others", "name"] ["names"] (defScope s_calls) := ⟨rfl, rfl, rfl, by decide +kernel, rfl, by decide +kernel, by decide +kernel⟩
abbrev s_around_the_first : Stmt := top 3
theorem sc_around_the_first : FnScope ["names", "spokes", "name"] ["names"] (defScope s_around_the_first) := ⟨rfl, rfl, rfl, by decide +kernel, rfl, by decide +kernel, by decide +kernel⟩
abbrev s_law_cell_at : Stmt := top 5
theorem sc_law_cell_at : FnScope ["_law_script", "_law_k"] ["_law_script", "_law_k"] (defScope s_law_cell_at) := ⟨rfl, rfl, rfl, by decide +kernel, rfl, by decide +kernel, by decide +kernel⟩
abbrev s_law_name_by : Stmt := top 6
theorem sc_law_name_by : FnScope ["_law_cell", "_law_signs", "_law_step", "_law_word", "_law_k"] ["_law_cell"] (defScope s_law_name_by) := ⟨rfl, rfl, rfl, by decide +kernel, rfl, by decide +kernel, by decide +kernel⟩
abbrev s_law_names : Stmt := top 7
theorem sc_law_names : FnScope ["_law_script", "_law_size", "_law_found", "_law_k", "_law_letters", "_law_word"] ["_law_script", "_law_size"] (defScope s_law_names) := ⟨rfl, rfl, rfl, by decide +kernel, rfl, by decide +kernel, by decide +kernel⟩
abbrev s_law_pair : Stmt := top 8
theorem sc_law_pair : FnScope ["_law_pair_here", "_law_known", "_law_name"] ["_law_pair_here", "_law_known"] (defScope s_law_pair) := ⟨rfl, rfl, rfl, by decide +kernel, rfl, by decide +kernel, by decide +kernel⟩
abbrev s_law : Stmt := top 9
theorem sc_law : FnScope ["_law_script", "_law_size", "_law_names_here", "_law_handed", "_law_row", "_law_due", "_law_known", "_law_name", "_law_pair_here", "_law_both"] ["_law_script"] (defScope s_law) := ⟨rfl, rfl, rfl, by decide +kernel, rfl, by decide +kernel, by decide +kernel⟩
structure Txt (K : PySem.W.Frag) (mg : Str → Option Value) where
  a_calls : Addr
  d_calls : FuncData
  h_calls : Has K mg "calls" s_calls ["names"] a_calls d_calls
  a_around_the_first : Addr
  d_around_the_first : FuncData
  h_around_the_first : Has K mg "_around_the_first" s_around_the_first ["names"] a_around_the_first d_around_the_first
  a_law_cell_at : Addr
  d_law_cell_at : FuncData
  h_law_cell_at : Has K mg "_law_cell_at" s_law_cell_at ["_law_script", "_law_k"] a_law_cell_at d_law_cell_at
  a_law_name_by : Addr
  d_law_name_by : FuncData
  h_law_name_by : Has K mg "_law_name_by" s_law_name_by ["_law_cell"] a_law_name_by d_law_name_by
  a_law_names : Addr
  d_law_names : FuncData
  h_law_names : Has K mg "_law_names" s_law_names ["_law_script", "_law_size"] a_law_names d_law_names
  a_law_pair : Addr
  d_law_pair : FuncData
  h_law_pair : Has K mg "_law_pair" s_law_pair ["_law_pair_here", "_law_known"] a_law_pair d_law_pair
  a_law : Addr
  d_law : FuncData
  h_law : Has K mg "law" s_law ["_law_script"] a_law d_law
  n_dict : mg "dict" = none
  n_isinstance : mg "isinstance" = none
  n_len : mg "len" = none
  n_list : mg "list" = none
  n_range : mg "range" = none
  n_str : mg "str" = none
  n_tuple : mg "tuple" = none
  v_CORE : Value
  g_CORE : mg "CORE" = some v_CORE ∧ RelV (.int (4)) v_CORE
def spLaw (K : PySem.W.Frag) : Sp := fun vs H Q _ => ∃ (a : Addr) (ns : List Int), vs = [.ref a] ∧ SqL K H a (ns.map V.int) ∧ ns.length ≤ 63 ∧ ∀ H', Q (.bl true) H'
/-! ### loops over a locked dict -/
def lkD (D : Ends) (d : Addr) (od : Obj) (u : HO) : Ends := ⟨fun σ' H' => H' d = some (.frz od u) ∧ D.nx σ' (upd H' d u), fun v H' => H' d = some (.frz od u) ∧ D.rt v (upd H' d u), fun σ' H' => H' d = some (.frz od u) ∧ D.bk σ' (upd H' d u), fun σ' H' => H' d = some (.frz od u) ∧ D.ct σ' (upd H' d u)⟩
section
variable {K : PySem.W.Frag} {σ : L2.St} {H H' : Hp} {ta : TA} {td : TE} {D : Ends} {t tz tb : TS}
theorem q_lock {d : Addr} {kvs : List (Key × V)} (hd : H d = some (.dK kvs)) (h : ∀ od, t (lkD { D with nx := tz D } d od (.dK kvs)) σ (upd H d (.frz od (.dK kvs)))) : tSeq (tLock t) tz D σ H := ⟨d, .dK kvs, hd, trivial, h⟩
theorem s_lock {d : Addr} {kvs : List (Key × V)} (hd : H d = some (.dK kvs)) (h : ∀ od, t (lkD D d od (.dK kvs)) σ (upd H d (.frz od (.dK kvs)))) : tLock t D σ H := ⟨d, .dK kvs, hd, trivial, h⟩
theorem s_forEnumD {d : Addr} {od : Obj} {kvs : List (Key × V)} {i j n : Nat} (h : Ev td σ H (.ref d)) (hn : n = 2) (hd : H d = some (.frz od (.dK kvs))) (Pv : Nat → L2.St → Hp → Prop) (h0 : ∀ H1, Ex H H1 → Pv 0 σ H1) (hl : ∀ m σ' H', Pv m σ' H' → H' d = some (.frz od (.dK kvs)))
    (hs : ∀ m k u σ' H' T, kvs[m]? = some (k, u) → Pv m σ' H' → H' T = none → tb { D with nx := Pv (m + 1), ct := Pv (m + 1), bk := D.nx } ((σ'.set i (some (.int (m : Nat)))).set j (some (kV k))) (upd H' T (.tup [.int (m : Nat), kV k])))
    (he : ∀ σ' H', Pv kvs.length σ' H' → D.nx σ' H') : tFor (iEnumD (tCons td tNil)) (gTup K n (gCons (gName i) (gCons (gName j) gNil))) tb D σ H :=
  h H (Ex.refl H) _ fun H1 e1 => ⟨d, od, kvs, rfl, e1 _ _ hd, for_it (walk_enumD (d := d) (o := od) (kvs := kvs)) Pv (h0 H1 e1) (fun m σ' H' _ p => hl m σ' H' p) (fun m x σ' H' H'' _ p y => by
      obtain ⟨T, k, u, rfl, hT, rfl, hkv⟩ := y
      exact ⟨T, [.int (m : Nat), kV k], rfl, .inl (.inl upd_same), by rw [hn]; rfl, .int (m : Nat), [kV k], rfl, kV k, [], rfl, rfl, hs m k u σ' H' T hkv p hT⟩) he⟩
theorem s_forKeys {d : Addr} {od : Obj} {kvs : List (Key × V)} {i : Nat} (h : Ev td σ H (.ref d)) (hd : H d = some (.frz od (.dK kvs))) (Pv : Nat → L2.St → Hp → Prop) (h0 : ∀ H1, Ex H H1 → Pv 0 σ H1) (hl : ∀ m σ' H', Pv m σ' H' → H' d = some (.frz od (.dK kvs)))
    (hs : ∀ m k u σ' H', kvs[m]? = some (k, u) → Pv m σ' H' → tb { D with nx := Pv (m + 1), ct := Pv (m + 1), bk := D.nx } (σ'.set i (some (kV k))) H')
    (he : ∀ σ' H', Pv kvs.length σ' H' → D.nx σ' H') : tFor (iKeys td) (gName i) tb D σ H :=
  h H (Ex.refl H) _ fun H1 e1 => ⟨d, od, rfl, .inl ⟨kvs, e1 _ _ hd, for_it (walk_keys (d := d) (o := od) (kvs := kvs)) Pv (h0 H1 e1) (fun m σ' H' _ p => hl m σ' H' p) (fun m x σ' H' H'' _ p y => by
      obtain ⟨rfl, k, u, hkv, rfl⟩ := y
      exact hs m k u σ' H'' hkv p) he⟩⟩
theorem upd_tF {d q : Addr} {xs : List V} {od : Obj} {kvs : List (Key × V)} {o : HO} (hd : H d = some (.frz od (.dK kvs))) (h : SqT K H q xs) : SqT K (upd H d o) q xs := by
  rcases h with (h | ⟨o, h⟩) | h
  · exact .inl (.inl (by rw [upd_ne (ne_of h hd (by intro z; cases z))]; exact h))
  · exact .inl (.inr ⟨o, by rw [upd_ne (ne_of h hd (by intro z; cases z))]; exact h⟩)
  · exact .inr h
theorem PgAt.updF {d a : Addr} {p : Pg} {od : Obj} {kvs : List (Key × V)} {o : HO} (hd : H d = some (.frz od (.dK kvs))) (hne : a ≠ d) (h : PgAt K H a p) : PgAt K (L2.upd H d o) a p :=
  let ⟨ks, h1, h2, h3⟩ := h; ⟨ks, by rw [upd_ne hne]; exact h1, h2.to fun _ _ => upd_tF hd, h3⟩
theorem PgRd.lock {d a : Addr} {od : Obj} {kvs : List (Key × V)} {p : Pg} (hd : H d = some (.dK kvs)) (h : PgRd K H a p) : PgRd K (L2.upd H d (.frz od (.dK kvs))) a p := by
  obtain ⟨ks, h1, h2, h3⟩ := h
  refine ⟨ks, ?_, h2.to fun _ _ => upd_t hd, h3⟩
  by_cases e : a = d
  · subst e
    rcases h1 with h1 | ⟨f, h1⟩
    · obtain rfl := HO.dK.inj (Option.some.inj (hd.symm.trans h1))
      exact .inr ⟨od, upd_same⟩
    · exact absurd (hd.symm.trans h1) (by intro z; cases z)
  · rcases h1 with h1 | ⟨f, h1⟩
    · exact .inl (by rw [upd_ne e]; exact h1)
    · exact .inr ⟨f, by rw [upd_ne e]; exact h1⟩
end

/-! ### the law's names -/
def lowC' (c : Nat) : Prop := 97 ≤ c ∧ c ≤ 122
def letter (i : Int) : Nat := 97 + (i % 26).toNat
theorem letter_low (i : Int) : lowC' (letter i) := by
  unfold letter lowC'
  have := Int.emod_nonneg i (by decide : (26 : Int) ≠ 0)
  have := Int.emod_lt_of_pos i (by decide : (0 : Int) < 26)
  omega
def alpha : List Nat := (List.range 26).map (· + 97)
theorem alpha_str : Str.ofString "abcdefghijklmnopqrstuvwxyz" = ofL alpha := by decide +kernel
theorem alpha_at (i : Int) : alpha[(i % 26).toNat]? = some (letter i) := by
  have h1 := Int.emod_nonneg i (by decide : (26 : Int) ≠ 0)
  have h2 := Int.emod_lt_of_pos i (by decide : (0 : Int) < 26)
  unfold alpha letter
  rw [List.getElem?_map, List.getElem?_range (by omega)]
  show some _ = some _
  congr 1
  exact Nat.add_comm _ _
theorem alpha_ix (i : Int) : atI alpha (i % 26) = some (letter i) := by
  have h1 := Int.emod_nonneg i (by decide : (26 : Int) ≠ 0)
  have e0 : (((i % 26).toNat : Nat) : Int) = i % 26 := by omega
  rw [← e0]
  exact atI_nat (alpha_at i)
def nameBase (c : Int) : List Nat := (List.range (1 + c % 8).toNat).map fun (k : Nat) => letter (c / 8 + (k : Int) * (1 + c / 208 % 25))
def nameBy (c : Int) : List Nat := if c / 5200 % 2 = 1 then (nameBase c).set (c / 10400 % (nameBase c).length).toNat (letter (c / 83200)) else nameBase c
theorem nameBase_len (c : Int) : ((nameBase c).length : Int) = 1 + c % 8 := by
  unfold nameBase
  rw [List.length_map, List.length_range]
  have h1 := Int.emod_nonneg c (by decide : (8 : Int) ≠ 0)
  omega
theorem nameBy_len (c : Int) : ((nameBy c).length : Int) = 1 + c % 8 := by
  unfold nameBy
  split
  · rw [List.length_set]; exact nameBase_len c
  · exact nameBase_len c
theorem nameBy_low (c : Int) : ∀ x ∈ nameBy c, lowC' x := by
  have hb : ∀ x ∈ nameBase c, lowC' x := by
    intro x hx
    unfold nameBase at hx
    obtain ⟨k, _, rfl⟩ := List.mem_map.mp hx
    exact letter_low _
  intro x hx
  unfold nameBy at hx
  split at hx
  · rcases List.mem_or_eq_of_mem_set hx with h | rfl
    · exact hb x h
    · exact letter_low _
  · exact hb x hx
/-- a name by its signs -/
def GoodN (cs : List Nat) : Prop := 1 ≤ cs.length ∧ cs.length ≤ 8 ∧ ∀ x ∈ cs, lowC' x
theorem nameBy_good (c : Int) : GoodN (nameBy c) := by
  have h := nameBy_len c
  have h1 := Int.emod_nonneg c (by decide : (8 : Int) ≠ 0)
  have h2 := Int.emod_lt_of_pos c (by decide : (0 : Int) < 8)
  exact ⟨by omega, by omega, nameBy_low c⟩
section
variable {P : Program} {w : World} {K : PySem.W.Frag} {mg : Str → Option Value} {base : Heap}
abbrev spNameBy : Sp := SpF (fun c : Int => [.int c]) (fun _ _ => True) (fun c _ => Is (.str (ofL (nameBy c))))
theorem sv_nameBy {c : Int} {H : Hp} : SpV spNameBy [.int c] H (.str (ofL (nameBy c))) := sv_of (sx_of c (fun _ _ => trivial) fun _ _ _ _ _ h => h)
theorem ok_law_name_by (T : Txt K mg) : FnOk P w K mg base CX0 1 T.a_law_name_by T.d_law_name_by ["_law_cell"] spNameBy := by
  refine T.h_law_name_by.F.ok sc_law_name_by (fun vs H Q E h => ?_) (fun cdv A outer s H vs Q E hr h => ?_)
  · obtain ⟨c, rfl, _⟩ := h
    rfl
  · obtain ⟨c, rfl, _, k⟩ := h
    refine ⟨_, (pss_cons (ps_set (i := 1) sc_law_name_by.nd rfl (by first | exact Or.inl rfl | exact Or.inr rfl) pe_str) (pss_cons (ps_set (i := 2) sc_law_name_by.nd rfl (by first | exact Or.inl rfl | exact Or.inr rfl) (pe_op op_add pe_int (pe_op op_mod (pe_op op_fdiv (pv 0) pe_int) pe_int))) (pss_cons (ps_setLc (i := 3) (own := [("_law_k", 4)]) (g := _)  rfl sc_law_name_by.nd rfl rfl (sw_true rfl rfl rfl (by decide +kernel)) (pi_range1 (by rfl) T.n_range (pa_cons (pe_op op_add pe_int (pe_op op_mod (pv 0) pe_int)) pa_nil)) (blkOk_by (own := [("_law_k", 4)]) (N := ["_law_cell", "_law_signs", "_law_step", "_law_word", "_law_k"]) (sc := defScope s_law_name_by) (by decide +kernel)) (fun _ _ _ _ _ => (pg_name (i := 4) sc_law_name_by.nd rfl (by first | exact Or.inl rfl | exact Or.inr rfl))) (fun _ _ _ _ _ => pts_nil) (fun _ _ _ _ _ => (pe_ix ix_str (pv 1) (pe_op op_mod (pe_op op_add (pe_op op_fdiv (pv 0) pe_int) (pe_op op_mul (pv 4) (pv 2))) pe_int) (fun _ _ => rfl)))) (pss_cons (ps_if (pt_cmpR op_eq (pe_op op_mod (pe_op op_fdiv (pv 0) pe_int) pe_int) pe_int (nomark _)) (pss_one (ps_asg (pe_ix ix_str (pv 1) (pe_op op_mod (pe_op op_fdiv (pv 0) pe_int) pe_int) (fun _ _ => rfl)) (pg_sub (pv 3) (pe_op op_mod (pe_op op_fdiv (pv 0) pe_int) (pe_callB call_len_seq (by rfl) T.n_len PySem.boot_len (pa_cons (pv 3) pa_nil))) set_list))) pss_nil) (pss_one (ps_ret (pe_join pe_str (pv 3)))))))), ?_⟩
    have h1 := Int.emod_nonneg c (by decide : (8 : Int) ≠ 0)
    have h2 := Int.emod_lt_of_pos c (by decide : (0 : Int) < 8)
    have h3 := Int.emod_nonneg (c / 208) (by decide : (25 : Int) ≠ 0)
    have h4 := Int.emod_lt_of_pos (c / 208) (by decide : (0 : Int) < 25)
    have hl := nameBase_len c
    refine q_asg (v := .str (ofL alpha)) (ev_is ev_c (by rw [alpha_str])) fun H1 e1 => ?_
    refine q_asg (by walk_at "ev") fun H2 e2 => ?_
    refine q_asgL (el_lcR1 (n := 1 + c % 8) (fun _ => true) (fun i => .str (sg (letter (c / 8 + (i : Int) * (1 + c / 208 % 25))))) (ea_cons (by walk_at "ev") ea_nil) (by omega) (fun _ => rfl) (fun i H3 e3 hi => et_yes) (fun i H3 e3 hi _ => ?_)) fun p H3 hp e3 h3 => ?_
    · refine ev_op (y := .int ((c / 8 + (i : Int) * (1 + c / 208 % 25)) % 26)) (ev_var rfl) ?_ (rv_ixS (by rw [ofL_len]; decide) (alpha_ix _))
      exact ev_op (ev_op (ev_op (ev_var rfl) ev_c (rv_I ⟨by decide, by decide⟩)) (ev_op (ev_var rfl) (ev_var rfl) (rv_I (Or.inl ⟨by omega, by omega⟩))) rv_I0) ev_c (rv_I (by show (0 : Int) < 26; decide))
    rw [given_all] at h3
    have h3' : H3 p = some (.lst (((nameBase c).map sg).map V.str)) := by
      rw [h3]
      unfold nameBase
      rw [List.map_map, List.map_map]
      rfl
    clear h3
    refine q_when (b := decide (V.int (c / 5200 % 2) = V.int 1)) (by walk_at "ev") (fun hb H4 e4 => ?_) (fun hb H4 e4 => ?_)
    · have hb' := V.int.inj (of_decide_eq_true hb)
      have hn : (0 : Int) < (nameBase c).length := by omega
      have hm1 : 0 ≤ c / 10400 % ((nameBase c).length : Int) := Int.emod_nonneg _ (by omega)
      have hm2 : c / 10400 % ((nameBase c).length : Int) < (nameBase c).length := Int.emod_lt_of_pos _ hn
      refine s_setL (l := p) (xs := ((nameBase c).map sg).map V.str) (j := (c / 10400 % ((nameBase c).length : Int)).toNat) (v := .str (sg (letter (c / 83200)))) (e4 _ _ h3') ?_ (ev_var rfl) ?_ (by simp; omega) fun H5 e5 => ?_
      · exact ev_op (y := .int (c / 83200 % 26)) (ev_var rfl) (by walk_at "ev") (rv_ixS (by rw [ofL_len]; decide) (alpha_ix _))
      · have e5 : (((c / 10400 % ((nameBase c).length : Int)).toNat : Nat) : Int) = c / 10400 % ((nameBase c).length : Int) := by omega
        rw [e5]
        exact ev_op (by walk_at "ev") (ev_is (ev_cb (ea_cons (ev_var rfl) ea_nil) (rc_lenL (sq_of (e4 _ _ h3')))) (by simp)) (rv_I hn)
      dsimp only
      have e6 : (((nameBase c).map sg).map V.str).set (c / 10400 % ((nameBase c).length : Int)).toNat (.str (sg (letter (c / 83200)))) = ((nameBy c).map sg).map V.str := by
        unfold nameBy
        rw [if_pos hb', List.map_set, List.map_set]
      rw [e6]
      have hg := nameBy_good c
      refine s_ret (x_join (cs := nameBy c) ev_c (x_varL rfl (sq_of upd_same)) (by have := hg.2.1; omega)) fun H6 e6 => k _ _ ?_ rfl
      refine Ex.trans (Ex.mut ?_ (fresh_back e1 (fresh_back e2 hp))) e6
      walk_at "ex"
    · have hb' : ¬ c / 5200 % 2 = 1 := fun z => of_decide_eq_false hb (congrArg V.int z)
      have e6 : nameBase c = nameBy c := by
        unfold nameBy
        rw [if_neg hb']
      rw [e6] at h3'
      have hg := nameBy_good c
      refine s_ret (x_join (cs := nameBy c) ev_c (x_varL rfl (sq_of (e4 _ _ h3'))) (by have := hg.2.1; omega)) fun H5 e5 => k _ _ (by walk_at "ex") rfl
end
local macro_rules | `(tactic| walk_at "sv") => `(tactic| exact sv_nameBy)

def cellAt (ns : List Int) (k : Int) : Int := ns[k.toNat]?.getD 0
section
variable {P : Program} {w : World} {K : PySem.W.Frag} {mg : Str → Option Value} {base : Heap}
abbrev spCell (K : PySem.W.Frag) : Sp := SpF (fun x : Addr × List Int × Int => [.ref x.1, .int x.2.2]) (fun x H => SqL K H x.1 (x.2.1.map V.int) ∧ 0 ≤ x.2.2) (fun x _ => Is (.int (cellAt x.2.1 x.2.2)))
theorem sv_cell {H : Hp} {a : Addr} {ns : List Int} {k : Int} (h : SqL K H a (ns.map V.int)) (hk : 0 ≤ k) : SpV (spCell K) [.ref a, .int k] H (.int (cellAt ns k)) := sv_of (sx_of (a, ns, k) (fun _ e => ⟨ex_l e h, hk⟩) fun _ _ _ _ _ h => h)
theorem ok_law_cell_at (T : Txt K mg) : FnOk P w K mg base CX0 1 T.a_law_cell_at T.d_law_cell_at ["_law_script", "_law_k"] (spCell K) := by
  refine T.h_law_cell_at.F.ok sc_law_cell_at (fun vs H Q E h => ?_) (fun cdv A outer s H vs Q E hr h => ?_)
  · obtain ⟨c, rfl, _⟩ := h
    rfl
  · obtain ⟨⟨a, ns, j⟩, rfl, ⟨hs, hj⟩, k⟩ := h
    simp only at hs hj k
    refine ⟨_, (pss_cons (ps_if (pt_cmpR op_lt (pv 1) (pe_callB call_len_seq (by rfl) T.n_len PySem.boot_len (pa_cons (pv 0) pa_nil)) (nomark _)) (pss_one (ps_ret (pe_ix ix_list (pv 0) (pv 1) (fun _ _ => rfl)))) pss_nil) (pss_one (ps_ret pe_int))), ?_⟩
    refine q_when (by walk_at "ev") (fun hb H2 e2 => ?_) (fun hb H2 e2 => ?_)
    · have hb' : j < ((ns.map V.int).length : Int) := of_decide_eq_true hb
      rw [List.length_map] at hb'
      have hlt : j.toNat < ns.length := by omega
      have e0 : ((j.toNat : Nat) : Int) = j := by omega
      refine s_ret (ev_op (ev_var rfl) (ev_var rfl) (rv_ixL (xs := ns.map V.int) (v := .int (cellAt ns j)) (ex_l e2 hs) ?_)) fun H3 e3 => k _ _ (by walk_at "ex") rfl
      show atI (ns.map V.int) j = _
      rw [← e0]
      refine atI_nat ?_
      rw [List.getElem?_map, List.getElem?_eq_getElem hlt]
      unfold cellAt
      rw [e0, List.getElem?_eq_getElem hlt]
      rfl
    · have hb' : ¬ j < ((ns.map V.int).length : Int) := of_decide_eq_false hb
      rw [List.length_map] at hb'
      refine s_ret ev_c fun H3 e3 => k _ _ (by walk_at "ex") ?_
      show _ = _
      rw [cellAt, List.getElem?_eq_none (by omega)]
      rfl
end
local macro_rules | `(tactic| walk_at "sv") => `(tactic| exact sv_cell (by walk_at "sq") (by decide))

/-! ### texts cut -/
theorem cut_take' (cs : List Nat) (n : Nat) : cutS (ofL cs) none (some (n : Int)) = ofL (cs.take n) := by
  unfold cutS
  rw [HT.sIx_none, HT.sIx_nat]
  have e : (ofL cs).length = cs.length := ofL_len cs
  have e2 : (ofL cs).cps.toList = cs := rfl
  rw [e, e2]
  show ofL _ = ofL _
  congr 1
  rw [List.drop_zero, Nat.sub_zero]
  rcases Nat.le_total n cs.length with h | h
  · rw [Nat.min_eq_left h]
  · rw [Nat.min_eq_right h, List.take_length, List.take_of_length_le h]
theorem cut_drop' (cs : List Nat) (n : Nat) : cutS (ofL cs) (some (n : Int)) none = ofL (cs.drop n) := by
  unfold cutS
  rw [HT.sIx_none, HT.sIx_nat]
  have e : (ofL cs).length = cs.length := ofL_len cs
  have e2 : (ofL cs).cps.toList = cs := rfl
  rw [e, e2]
  show ofL _ = ofL _
  congr 1
  rcases Nat.le_total n cs.length with h | h
  · rw [Nat.min_eq_left h]
    exact List.take_of_length_le (by rw [List.length_drop]; omega)
  · rw [Nat.min_eq_right h, List.drop_length, List.drop_of_length_le h, List.take_nil]
section
variable {σ : L2.St} {H : Hp} {te : TE}
theorem ev_slS1 {cs : List Nat} {tk : TE} {n : Nat} (h : Ev te σ H (.str (ofL cs))) (hk : Ev tk σ H (.int (n : Int))) (hl : cs.length ≤ 100000) : Ev (tSl rSlS te tNoPart (tPart tk)) σ H (.str (ofL (cs.take n))) := fun H1 e Q q =>
  h H1 e _ fun H2 e2 => hk H2 (e.trans e2) _ fun H3 e3 => ⟨n, rfl, ofL cs, rfl, sz_of (by rw [ofL_len]; exact hl), by
    rw [cut_take']
    exact q H3 (e2.trans e3)⟩
theorem ev_slS2 {cs : List Nat} {tk : TE} {n : Nat} (h : Ev te σ H (.str (ofL cs))) (hk : Ev tk σ H (.int (n : Int))) (hl : cs.length ≤ 100000) : Ev (tSl rSlS te (tPart tk) tNoPart) σ H (.str (ofL (cs.drop n))) := fun H1 e Q q =>
  h H1 e _ fun H2 e2 => hk H2 (e.trans e2) _ fun H3 e3 => ⟨n, rfl, ofL cs, rfl, sz_of (by rw [ofL_len]; exact hl), by
    rw [cut_drop']
    exact q H3 (e2.trans e3)⟩
end

/-! ### rows of pairs -/
theorem ix_listK {X : Cx} {K : PySem.W.Frag} (h : X.K = K) : IxR X (rIxL K) := by
  subst h
  exact ix_list
def PairL (K : PySem.W.Frag) (H : Hp) (ts : List Addr) (ps : List (Nm × Nm)) : Prop := Paired (fun t p => SqT K H t [.str (ofL p.1), .str (ofL p.2)]) ts ps
theorem PairL.mono {K : PySem.W.Frag} {H H' : Hp} {ts : List Addr} {ps : List (Nm × Nm)} (e : Ex H H') (h : PairL K H ts ps) : PairL K H' ts ps := Paired.mapP h fun _ _ h => ex_t e h
theorem PairL.updL {K : PySem.W.Frag} {H : Hp} {a : Addr} {ts : List Addr} {ps : List (Nm × Nm)} {xs ys : List V} (ha : H a = some (.lst xs)) (h : PairL K H ts ps) : PairL K (upd H a (.lst ys)) ts ps := Paired.mapP h fun _ _ h => by
  rcases h with (h | ⟨o, h⟩) | h
  · exact .inl (.inl (by rw [upd_ne (ne_of h ha (by intro z; cases z))]; exact h))
  · exact .inl (.inr ⟨o, by rw [upd_ne (ne_of h ha (by intro z; cases z))]; exact h⟩)
  · exact .inr h
theorem paired_app {α β : Type} {F : α → β → Prop} {l l' : List α} {m m' : List β} (h : Paired F l m) (h' : Paired F l' m') : Paired F (l ++ l') (m ++ m') := by
  induction h with
  | nil => exact h'
  | cons r t ih => exact .cons r ih
theorem paired_take {α β : Type} {F : α → β → Prop} {l : List α} {m : List β} (h : Paired F l m) (i : Nat) : Paired F (l.take i) (m.take i) := by
  induction h generalizing i with
  | nil =>
    rw [List.take_nil, List.take_nil]
    exact .nil
  | cons r t ih =>
    cases i with
    | zero => exact .nil
    | succ i => exact .cons r (ih i)
theorem paired_at {α β : Type} {F : α → β → Prop} {l : List α} {m : List β} (h : Paired F l m) {i : Nat} {x : α} (hi : l[i]? = some x) : ∃ y, m[i]? = some y ∧ F x y := by
  induction h generalizing i with
  | nil => simp at hi
  | cons r t ih =>
    cases i with
    | zero =>
      obtain rfl := Option.some.inj hi
      exact ⟨_, rfl, r⟩
    | succ i => exact ih (by simpa using hi)
def nmS (ns : List Nm) : List V := ns.map fun n => V.str (ofL n)
theorem nmS_at {ns : List Nm} {i : Nat} {n : Nm} (h : ns[i]? = some n) : atI (nmS ns) (i : Int) = some (.str (ofL n)) := atI_nat (by unfold nmS; rw [List.getElem?_map, h]; rfl)
def RowP (K : PySem.W.Frag) (H : Hp) (ps : List (Nm × Nm)) : VP := fun v H2 => ∃ r ts, v = .ref r ∧ H r = none ∧ H2 r = some (.lst (ts.map V.ref)) ∧ PairL K H2 ts ps
theorem cutV_take (xs : List V) (n : Nat) : cutV xs none (some (n : Int)) = xs.take n := by
  unfold cutV
  rw [HT.sIx_none, HT.sIx_nat, List.drop_zero, Nat.sub_zero]
  rcases Nat.le_total n xs.length with h | h
  · rw [Nat.min_eq_left h]
  · rw [Nat.min_eq_right h, List.take_length, List.take_of_length_le h]
theorem cutV_drop (xs : List V) (n : Nat) : cutV xs (some (n : Int)) none = xs.drop n := by
  unfold cutV
  rw [HT.sIx_none, HT.sIx_nat]
  rcases Nat.le_total n xs.length with h | h
  · rw [Nat.min_eq_left h]
    exact List.take_of_length_le (by rw [List.length_drop]; omega)
  · rw [Nat.min_eq_right h, List.drop_length, List.drop_of_length_le h, List.take_nil]
theorem cutV_last (xs : List V) : cutV xs none (some (-1)) = xs.take (xs.length - 1) := by
  unfold cutV
  have h : HT.sIx xs.length xs.length (some (-1)) = xs.length - 1 := by
    show (if (-1 : Int) < 0 then ((-1 : Int) + (xs.length : Int)).toNat else min (-1 : Int).toNat xs.length) = _
    rw [if_pos (by decide)]
    omega
  rw [HT.sIx_none, h, List.drop_zero, Nat.sub_zero]
section
variable {K : PySem.W.Frag} {σ : L2.St} {H : Hp} {te tk ta tb tl : TE} {D : Ends} {tz : TS}
theorem x_slL1 {a : Addr} {xs : List V} {n : Nat} (h : Ev te σ H (.ref a)) (ha : SqL K H a xs) (hk : Ev tk σ H (.int (n : Int))) : EvX (tSl (rSlL K) te (tPart tk) tNoPart) σ H (Nw H (.lst (xs.drop n))) := fun H1 e Q q =>
  h H1 e _ fun H2 e2 => hk H2 (e.trans e2) _ fun H3 e3 => ⟨n, rfl, a, xs, rfl, ex_l ((e.trans e2).trans e3) ha, fun p hp => by
    rw [cutV_drop]
    exact q _ _ ((e2.trans e3).trans (Ex.new hp)) ⟨p, rfl, fresh_back ((e.trans e2).trans e3) hp, upd_same⟩⟩
theorem x_slL2 {a : Addr} {xs : List V} {n : Nat} (h : Ev te σ H (.ref a)) (ha : SqL K H a xs) (hk : Ev tk σ H (.int (n : Int))) : EvX (tSl (rSlL K) te tNoPart (tPart tk)) σ H (Nw H (.lst (xs.take n))) := fun H1 e Q q =>
  h H1 e _ fun H2 e2 => hk H2 (e.trans e2) _ fun H3 e3 => ⟨n, rfl, a, xs, rfl, ex_l ((e.trans e2).trans e3) ha, fun p hp => by
    rw [cutV_take]
    exact q _ _ ((e2.trans e3).trans (Ex.new hp)) ⟨p, rfl, fresh_back ((e.trans e2).trans e3) hp, upd_same⟩⟩
theorem x_slL3 {a : Addr} {xs : List V} (h : Ev te σ H (.ref a)) (ha : SqL K H a xs) (hk : Ev tk σ H (.int (-1))) : EvX (tSl (rSlL K) te tNoPart (tPart tk)) σ H (Nw H (.lst (xs.take (xs.length - 1)))) := fun H1 e Q q =>
  h H1 e _ fun H2 e2 => hk H2 (e.trans e2) _ fun H3 e3 => ⟨-1, rfl, a, xs, rfl, ex_l ((e.trans e2).trans e3) ha, fun p hp => by
    rw [cutV_last]
    exact q _ _ ((e2.trans e3).trans (Ex.new hp)) ⟨p, rfl, fresh_back ((e.trans e2).trans e3) hp, upd_same⟩⟩
def LsX (xs : List V) : VP := fun v H => ∃ l, v = .ref l ∧ H l = some (.lst xs)
theorem lsx_ev {l : Addr} {xs : List V} (h : Ev te σ H (.ref l)) (hl : H l = some (.lst xs)) : EvX te σ H (LsX xs) := x_is h fun _ e => ⟨l, rfl, e _ _ hl⟩
theorem lsx_nw {xs : List V} (h : EvX te σ H (Nw H (.lst xs))) : EvX te σ H (LsX xs) := h.imp fun v H1 _ ⟨l, a, _, b⟩ => ⟨l, a, b⟩
theorem x_catX {xs zs : List V} (h1 : EvX ta σ H (LsX xs)) (h2 : EvX tb σ H (LsX zs)) (hl : xs.length + zs.length ≤ 100000) : EvX (tOp rCat ta tb) σ H (Nw H (.lst (xs ++ zs))) := fun H1 e Q q =>
  h1 H1 e _ fun v H2 e2 ⟨l, ev, hl1⟩ => h2 H2 (e.trans e2) _ fun u H3 e3 ⟨b, eu, hb1⟩ => ⟨l, b, xs, zs, ev, eu, e3 _ _ hl1, hb1, sz_of hl, fun p hp => q _ _ ((e2.trans e3).trans (Ex.new hp)) ⟨p, rfl, fresh_back ((e.trans e2).trans e3) hp, upd_same⟩⟩
theorem qx_asgT {P : VP} {g : TG} (h : EvX te σ H P) (k : ∀ v H1, Ex H H1 → P v H1 → g v σ H1 fun σ2 H2 => tz D σ2 H2) : tSeq (tAsg te g) tz D σ H := h H (Ex.refl H) _ fun v H1 e hp => k v H1 e hp
def PxA (K : PySem.W.Frag) (ps : List (Nm × Nm)) : List V → Hp → Prop := fun vs H => ∃ ts : List Addr, vs = ts.map V.ref ∧ PairL K H ts ps
theorem pxA_nil : EvXA tNil σ H (PxA K []) := fun H1 _ Q q => q [] H1 (Ex.refl H1) ⟨[], rfl, .nil⟩
theorem pxA_cons {tr : TA} {p q : Nm} {ps : List (Nm × Nm)} {i j : Nat} (h1 : σ[i]? = some (some (.str (ofL p)))) (h2 : σ[j]? = some (some (.str (ofL q)))) (hr : EvXA tr σ H (PxA K ps)) : EvXA (tCons (tTup (tCons (tVar i) (tCons (tVar j) tNil))) tr) σ H (PxA K ((p, q) :: ps)) := fun H1 e Q k =>
  (x_tup (vs := [.str (ofL p), .str (ofL q)]) (ea_cons (ev_var h1) (ea_cons (ev_var h2) ea_nil))) H1 e _ fun v H2 e2 ⟨d, ev, _, hd⟩ => hr H2 (e.trans e2) _ fun r H3 e3 ⟨ts, er, hts⟩ => k _ H3 (e2.trans e3) ⟨d :: ts, by rw [ev, er]; rfl, .cons (ex_t e3 (st_of hd)) hts⟩
theorem x_lstP {tr : TA} {ps : List (Nm × Nm)} (h : EvXA tr σ H (PxA K ps)) (hn : ps.length ≤ 1000) : EvX (tLst tr) σ H (RowP K H ps) := fun H1 e Q q =>
  h H1 e _ fun vs H2 e2 ⟨ts, ev, hts⟩ => ⟨sz_of (by rw [ev, List.length_map, Paired.length hts]; omega), fun p hp => q _ _ (e2.trans (Ex.new hp)) ⟨p, ts, rfl, fresh_back e (fresh_back e2 hp), by rw [upd_same, ev], hts.mono (Ex.new hp)⟩⟩
/-- [(.., n) for n in ns] -/
theorem x_spk {ns : List Nm} {f : Nm → Nm × Nm} {j : Nat} {vs : List Nat} (h : EvX tl σ H (Nw H (.lst (nmS ns)))) (hz : ns.length ≤ 100) (hw : ∀ x, wipe ((wipe σ vs).set j (some x)) vs = wipe σ vs)
    (he : ∀ (n : Nm) H1, n ∈ ns → Ex H H1 → EvX te ((wipe σ vs).set j (some (.str (ofL n)))) H1 (Nw H1 (.tup [.str (ofL (f n).1), .str (ofL (f n).2)]))) :
    EvX (tLc (iList K tl) (gName j) tYes te vs) σ H (RowP K H (ns.map f)) := fun H0 e Q q => h H0 e _ fun v H1 e1 ⟨a, ev, _, ha⟩ => ⟨a, ev, ⟨_, sq_of ha⟩, fun Dl hD => by
  subst ev
  refine lc_it (walk_list (xs := nmS ns)) (fun i H' => Ex H1 H' ∧ ∃ bds, H' Dl = some (.lst (bds.map V.ref)) ∧ PairL K H' bds ((ns.map f).take i)) ⟨Ex.new hD, [], upd_same, by rw [List.take_zero]; exact .nil⟩ (fun i H' _ p => sq_of (p.1 _ _ ha)) (fun i x H' H'' hi p y => ?_) (fun H' p => ?_)
  · obtain ⟨rfl, hx⟩ := y
    obtain ⟨p1, bds, p2, p3⟩ := p
    unfold nmS at hx
    rw [List.getElem?_map] at hx
    cases hni : ns[i]? with
    | none => rw [hni] at hx; cases hx
    | some n =>
      rw [hni] at hx
      obtain rfl := Option.some.inj hx
      have hbl : bds.length ≤ 100 := by
        have := Paired.length p3
        rw [List.length_take, List.length_map] at this
        omega
      refine ⟨hw _, ?_⟩
      refine et_yes _ (Ex.refl _) _ fun H3 e3 => ?_
      show te _ H3 _
      refine he n H3 (List.mem_of_getElem? hni) (((e.trans e1).trans p1).trans e3) H3 (Ex.refl _) _ fun v H4 e4 hv => ?_
      obtain ⟨d, rfl, hd0, hd⟩ := hv
      have e34 := e3.trans e4
      refine ⟨bds.map V.ref, e34 _ _ p2, sz_lt (by rw [List.length_map]; omega), Ex.mut (p1.trans e34) hD, bds ++ [d], by rw [upd_same, List.map_append]; rfl, ?_⟩
      have ht : (ns.map f).take (i + 1) = (ns.map f).take i ++ [f n] := by rw [List.take_succ, List.getElem?_map, hni]; rfl
      rw [ht]
      have hd' : PairL K H4 [d] [f n] := .cons (st_of hd) .nil
      exact paired_app ((p3.mono e34).updL (e34 _ _ p2)) (hd'.updL (e34 _ _ p2))
  · obtain ⟨p1, bds, p2, p3⟩ := p
    rw [show (nmS ns).length = (ns.map f).length by unfold nmS; rw [List.length_map, List.length_map], List.take_length] at p3
    exact q _ _ (e1.trans p1) ⟨Dl, bds, rfl, fresh_back e (fresh_back e1 hD), p2, p3⟩⟩
end
section
variable {P : Program} {w : World} {K : PySem.W.Frag} {mg : Str → Option Value} {base : Heap}
abbrev spCalls (K : PySem.W.Frag) (F : List Nm → List (Nm × Nm)) (lo : Nat) : Sp := SpF (fun x : Addr × List Nm => [.ref x.1]) (fun x H => SqL K H x.1 (nmS x.2) ∧ lo ≤ x.2.length ∧ x.2.length ≤ 100) (fun x H => RowP K H (F x.2))
def arP : List Nm → List (Nm × Nm)
  | [] => []
  | f :: r => spk f r ++ (spk f r).dropLast
theorem arP_eq {ns : List Nm} (h : ns.length < 4) : arP ns = callP ns := by
  match ns, h with
  | [], _ => rfl
  | [_], _ => rfl
  | [_, _], _ => rfl
  | [_, _, _], _ => rfl
theorem nmS_drop (ns : List Nm) (i : Nat) : (nmS ns).drop i = nmS (ns.drop i) := by unfold nmS; rw [List.map_drop]
theorem nmS_take (ns : List Nm) (i : Nat) : (nmS ns).take i = nmS (ns.take i) := by unfold nmS; rw [List.map_take]
end
section
variable {P : Program} {w : World} {K : PySem.W.Frag} {mg : Str → Option Value} {base : Heap}
theorem ok_around_the_first (T : Txt K mg) : FnOk P w K mg base CX0 1 T.a_around_the_first T.d_around_the_first ["names"] (spCalls K arP 0) := by
  refine T.h_around_the_first.F.ok sc_around_the_first (fun vs H Q E h => ?_) (fun cdv A outer s H vs Q E hr h => ?_)
  · obtain ⟨c, rfl, _⟩ := h
    rfl
  · obtain ⟨⟨a, ns⟩, rfl, ⟨ha, _, hl⟩, k⟩ := h
    simp only at ha hl k
    refine ⟨_, (pss_cons (ps_setLc (i := 1) (own := [("name", 2)]) (g := _)  rfl sc_around_the_first.nd rfl rfl (sw_true rfl rfl rfl (by decide +kernel)) (pi_list (pe_slice sl_list (pv 0) (po_some pe_int) po_none)) (blkOk_by (own := [("name", 2)]) (N := ["names", "spokes", "name"]) (sc := defScope s_around_the_first) (by decide +kernel)) (fun _ _ _ _ _ => (pg_name (i := 2) sc_around_the_first.nd rfl (by first | exact Or.inl rfl | exact Or.inr rfl))) (fun _ _ _ _ _ => pts_nil) (fun _ _ _ _ _ => (pe_tup (pa_cons (pe_ix (ix_listK (K := K) rfl) (pv 0) pe_int (fun _ _ => rfl)) (pa_cons (pv 2) pa_nil))))) (pss_one (ps_ret (pe_op op_cat (pv 1) (pe_slice sl_list (pv 1) po_none (po_some (pe_un un_neg pe_int))))))), ?_⟩
    have hsl : EvX (tSl (rSlL K) (tVar 0) (tPart (tC (.int 1))) tNoPart) [some (.ref a), none, none] H (Nw H (.lst (nmS (ns.drop 1)))) := by
      rw [← nmS_drop]
      exact x_slL1 (K := K) (n := 1) (ev_var rfl) ha ev_c
    obtain ⟨f, hf⟩ : ∃ f : Nm, ∀ n ∈ ns.drop 1, ns[0]? = some f := by
      cases ns with
      | nil => exact ⟨[], fun n hn => by cases hn⟩
      | cons f r => exact ⟨f, fun n _ => rfl⟩
    have hsp : (ns.drop 1).map (fun n => (f, n)) = match ns with | [] => [] | _ :: r => spk f r := by
      cases ns <;> rfl
    refine qx_asg (P := RowP K H ((ns.drop 1).map fun n => (f, n))) (x_spk (K := K) (f := fun n => (f, n)) hsl (by rw [List.length_drop]; omega) (fun _ => by exact rfl) fun n H1 hn e1 => by exact x_tup (vs := [.str (ofL f), .str (ofL n)]) (ea_cons (ev_op (ev_var rfl) ev_c (rv_ixL (ex_l e1 ha) (nmS_at (i := 0) (hf n hn)))) (ea_cons (ev_var rfl) ea_nil))) fun v H1 e1 hv => ?_
    obtain ⟨r, ts, rfl, hr0, hr1, hP⟩ := hv
    have hlen : ts.length = (ns.drop 1).length := by rw [Paired.length hP, List.length_map]
    have hdl : ts.length ≤ 100 := by rw [hlen, List.length_drop]; omega
    refine sx_ret (x_catX (lsx_ev (ev_var rfl) hr1) (lsx_nw (x_slL3 (K := K) (ev_var rfl) (sq_of hr1) (ev_un ev_c ru_neg))) (by rw [List.length_take, List.length_map]; omega)) fun v H2 e2 hv => ?_
    obtain ⟨r2, rfl, hr20, hr21⟩ := hv
    rw [List.length_map, ← List.map_take, ← List.map_append] at hr21
    refine k _ _ (e1.trans e2) ⟨r2, ts ++ ts.take (ts.length - 1), rfl, fresh_back e1 hr20, hr21, ?_⟩
    have hP2 := hP.mono e2
    have := paired_app hP2 (paired_take hP2 (ts.length - 1))
    show PairL K H2 _ (arP ns)
    have e : arP ns = ((ns.drop 1).map fun n => (f, n)) ++ ((ns.drop 1).map fun n => (f, n)).take (ts.length - 1) := by
      rw [hlen]
      cases ns with
      | nil => rfl
      | cons g r =>
        cases r with
        | nil => rfl
        | cons m r =>
          have hg : g = f := Option.some.inj (hf m List.mem_cons_self)
          subst hg
          show spk g (m :: r) ++ (spk g (m :: r)).dropLast = spk g (m :: r) ++ (spk g (m :: r)).take ((m :: r).length - 1)
          rw [List.dropLast_eq_take]
          unfold spk
          rw [List.length_map]
    rw [e]
    exact this
end
section
variable {P : Program} {w : World} {K : PySem.W.Frag} {mg : Str → Option Value} {base : Heap}
theorem ok_calls (T : Txt K mg) : FnOk P w K mg base CX0 2 T.a_calls T.d_calls ["names"] (spCalls K callP 0) := by
  refine T.h_calls.F.ok sc_calls (fun vs H Q E h => ?_) (fun cdv A outer s H vs Q E hr h => ?_)
  · obtain ⟨c, rfl, _⟩ := h
    rfl
  · obtain ⟨⟨a, ns⟩, rfl, ⟨ha, _, hl⟩, k⟩ := h
    simp only at ha hl k
    refine ⟨_, (pss_cons (ps_if (pt_cmpR op_lt (pe_callB call_len_seq (by rfl) T.n_len PySem.boot_len (pa_cons (pv 0) pa_nil)) (pe_glob rfl T.g_CORE.1 T.g_CORE.2) (nomark _)) (pss_one (ps_ret (pe_call (ok_around_the_first T) (hr.mono (by decide)) rfl T.h_around_the_first.m T.h_around_the_first.F.kp T.h_around_the_first.b .nil pass0 (pa_cons (pv 0) pa_nil)))) pss_nil) (pss_cons (ps_asg (pe_slice sl_list (pv 0) po_none (po_some (pe_glob rfl T.g_CORE.1 T.g_CORE.2))) (pg_lst rfl (pgs_cons (pg_name (i := 1) sc_calls.nd rfl (by first | exact Or.inl rfl | exact Or.inr rfl)) (pgs_cons (pg_name (i := 2) sc_calls.nd rfl (by first | exact Or.inl rfl | exact Or.inr rfl)) (pgs_cons (pg_name (i := 3) sc_calls.nd rfl (by first | exact Or.inl rfl | exact Or.inr rfl)) (pgs_cons (pg_name (i := 4) sc_calls.nd rfl (by first | exact Or.inl rfl | exact Or.inr rfl)) pgs_nil)))))) (pss_cons (ps_set (i := 5) sc_calls.nd rfl (by first | exact Or.inl rfl | exact Or.inr rfl) (pe_lst (pa_cons (pe_tup (pa_cons (pv 1) (pa_cons (pv 2) pa_nil))) (pa_cons (pe_tup (pa_cons (pv 3) (pa_cons (pv 4) pa_nil))) (pa_cons (pe_tup (pa_cons (pv 1) (pa_cons (pv 3) pa_nil))) (pa_cons (pe_tup (pa_cons (pv 2) (pa_cons (pv 4) pa_nil))) pa_nil)))))) (pss_cons (ps_setLc (i := 6) (own := [("name", 7)]) (g := _)  rfl sc_calls.nd rfl rfl (sw_true rfl rfl rfl (by decide +kernel)) (pi_list (pe_slice sl_list (pv 0) (po_some (pe_glob rfl T.g_CORE.1 T.g_CORE.2)) po_none)) (blkOk_by (own := [("name", 7)]) (N := ["names", "first", "second", "third", "fourth", "core", "others", "name"]) (sc := defScope s_calls) (by decide +kernel)) (fun _ _ _ _ _ => (pg_name (i := 7) sc_calls.nd rfl (by first | exact Or.inl rfl | exact Or.inr rfl))) (fun _ _ _ _ _ => pts_nil) (fun _ _ _ _ _ => (pe_tup (pa_cons (pv 1) (pa_cons (pv 7) pa_nil))))) (pss_one (ps_ret (pe_op op_cat (pe_op op_cat (pv 6) (pv 5)) (pv 6)))))))), ?_⟩
    refine q_when (b := decide ((ns.length : Int) < 4)) (et_test (ev_op (ev_is (ev_cb (ea_cons (ev_var rfl) ea_nil) (rc_lenL ha)) (by unfold nmS; rw [List.length_map])) ev_c rv_I0)) (fun hb H1 e1 => ?_) (fun hb H1 e1 => ?_)
    · have h4 : ns.length < 4 := by
        have := of_decide_eq_true hb
        omega
      refine sx_ret (P := RowP K H1 (arP ns)) (x_call1 (x_ev (ev_var (v := .ref a) rfl)) ?_) fun v H2 e2 hv => ?_
      · rintro _ H2 e2 rfl
        exact sx_of (a, ns) (fun H3 e3 => ⟨ex_l ((e1.trans e2).trans e3) ha, Nat.zero_le _, hl⟩) fun _ _ _ e3 _ ⟨r, ts, a1, a2, a3⟩ => ⟨r, ts, a1, fresh_back (e2.trans e3) a2, a3⟩
      · obtain ⟨r, ts, a1, a2, a3⟩ := hv
        exact k _ _ (e1.trans e2) ⟨r, ts, a1, fresh_back e1 a2, by rw [← arP_eq h4]; exact a3⟩
    · have h4 : ¬ ns.length < 4 := by
        have := of_decide_eq_false hb
        omega
      obtain ⟨n1, n2, n3, n4, r, rfl⟩ : ∃ n1 n2 n3 n4 r, ns = n1 :: n2 :: n3 :: n4 :: r := by
        match ns, h4 with
        | n1 :: n2 :: n3 :: n4 :: r, _ => exact ⟨n1, n2, n3, n4, r, rfl⟩
        | [], h => exact absurd (by decide) h
        | [_], h => exact absurd (by simp) h
        | [_, _], h => exact absurd (by simp) h
        | [_, _, _], h => exact absurd (by simp) h
      have ha1 := ex_l e1 ha
      have etk : (n1 :: n2 :: n3 :: n4 :: r).take 4 = [n1, n2, n3, n4] := rfl
      have edr : (n1 :: n2 :: n3 :: n4 :: r).drop 4 = r := rfl
      have hsl0 := x_slL2 (K := K) (te := tVar 0) (σ := [some (.ref a), none, none, none, none, none, none, none]) (n := 4) (ev_var rfl) ha1 (tk := tC (.int 4)) ev_c
      rw [nmS_take, etk] at hsl0
      refine qx_asgT (P := Nw H1 (.lst (nmS [n1, n2, n3, n4]))) hsl0 fun v H2 e2 hv => ?_
      obtain ⟨b, rfl, _, hb1⟩ := hv
      refine ⟨b, nmS [n1, n2, n3, n4], rfl, sq_of hb1, rfl, _, _, rfl, _, _, rfl, _, _, rfl, _, _, rfl, rfl, ?_⟩
      have ha2 := ex_l e2 ha1
      refine qx_asg (P := RowP K H2 [(n1, n2), (n3, n4), (n1, n3), (n2, n4)]) (x_lstP (K := K) (pxA_cons rfl rfl (pxA_cons rfl rfl (pxA_cons rfl rfl (pxA_cons rfl rfl pxA_nil)))) (Nat.le_of_ble_eq_true rfl)) fun v H3 e3 hv => ?_
      obtain ⟨c, cs, rfl, _, hc1, hcP⟩ := hv
      have ha3 := ex_l e3 ha2
      have hsl : EvX (tSl (rSlL K) (tVar 0) (tPart (tC (.int 4))) tNoPart) [some (.ref a), some (.str (ofL n1)), some (.str (ofL n2)), some (.str (ofL n3)), some (.str (ofL n4)), some (.ref c), none, none] H3 (Nw H3 (.lst (nmS r))) := by
        have := x_slL1 (K := K) (te := tVar 0) (σ := [some (.ref a), some (.str (ofL n1)), some (.str (ofL n2)), some (.str (ofL n3)), some (.str (ofL n4)), some (.ref c), none, none]) (n := 4) (ev_var rfl) ha3 (tk := tC (.int 4)) ev_c
        rw [nmS_drop, edr] at this
        exact this
      have hrl : r.length ≤ 100 := by
        simp only [List.length_cons] at hl
        omega
      refine qx_asg (P := RowP K H3 (r.map fun n => (n1, n))) (x_spk (K := K) (f := fun n => (n1, n)) hsl hrl (fun _ => by exact rfl) fun n H4 hn e4 => by exact x_tup (vs := [.str (ofL n1), .str (ofL n)]) (ea_cons (ev_var rfl) (ea_cons (ev_var rfl) ea_nil))) fun v H4 e4 hv => ?_
      obtain ⟨o, os, rfl, _, ho1, hoP⟩ := hv
      have hos : os.length = r.length := by rw [Paired.length hoP, List.length_map]
      have hcs : cs.length = 4 := Paired.length hcP
      refine sx_ret (x_catX (lsx_nw (x_catX (lsx_ev (ev_var rfl) ho1) (lsx_ev (ev_var rfl) (e4 _ _ hc1)) (by rw [List.length_map, List.length_map]; omega))) (lsx_ev (ev_var rfl) ho1) (by rw [List.length_append, List.length_map, List.length_map]; omega)) fun v H5 e5 hv => ?_
      obtain ⟨z, rfl, hz0, hz1⟩ := hv
      have e05 : Ex H H4 := ((e1.trans e2).trans e3).trans e4
      rw [← List.map_append, ← List.map_append] at hz1
      refine k _ _ (e05.trans e5) ⟨z, os ++ cs ++ os, rfl, fresh_back e05 hz0, hz1, ?_⟩
      exact paired_app (paired_app (hoP.mono e5) (hcP.mono (e4.trans e5))) (hoP.mono e5)
end

/-! ### the names, a pair -/
def nmAt (c1 c2 : Int) (k : Nat) : Nm := ([letter ((k : Int) * 17 + c2)] ++ [letter ((k : Int) / 26)]) ++ (nameBy (c1 + 7 * (k : Int))).take 6
theorem letter_inj {i j : Int} (h : letter i = letter j) : i % 26 = j % 26 := by
  unfold letter at h
  have := Int.emod_nonneg i (by decide : (26 : Int) ≠ 0)
  have := Int.emod_nonneg j (by decide : (26 : Int) ≠ 0)
  omega
theorem nmAt_inj {c1 c2 : Int} {j k : Nat} (hj : j < 71) (hk : k < 71) (h : nmAt c1 c2 j = nmAt c1 c2 k) : j = k := by
  unfold nmAt at h
  have h1 : letter ((j : Int) * 17 + c2) = letter ((k : Int) * 17 + c2) := (List.cons.inj h).1
  have h2 : letter ((j : Int) / 26) = letter ((k : Int) / 26) := (List.cons.inj (List.cons.inj h).2).1
  have h3 := letter_inj h1
  have h4 := letter_inj h2
  omega
theorem names_nd {c1 c2 : Int} {n : Nat} (hn : n ≤ 70) : ((List.range n).map (nmAt c1 c2)).Nodup := by
  refine List.pairwise_map.mpr ?_
  refine (List.pairwise_lt_range (n := n)).imp_of_mem fun {a b} ha hb hab z => ?_
  have := nmAt_inj (by have := List.mem_range.mp ha; omega) (by have := List.mem_range.mp hb; omega) z
  omega
def NamesV (H : Hp) (n : Int) : VP := fun v H2 => ∃ a ns, v = .ref a ∧ H a = none ∧ H2 a = some (.lst (nmS ns)) ∧ (ns.length : Int) = n ∧ ns.Nodup ∧ ∀ m ∈ ns, NmOk m
theorem nmAt_ok (c1 c2 : Int) (k : Nat) : NmOk (nmAt c1 c2 k) := by
  have hl : ∀ x, lowC' x → x < 1114112 := fun x h => by unfold lowC' at h; omega
  unfold nmAt
  refine ⟨?_, ?_, fun x hx => ?_⟩
  · rw [List.length_append]
    exact Nat.le_trans (by decide) (Nat.le_add_right 2 _)
  · rw [List.length_append, List.length_take]
    show 2 + _ ≤ 8
    omega
  · rcases List.mem_append.mp hx with hx | hx
    · simp only [List.cons_append, List.nil_append, List.mem_cons, List.not_mem_nil, or_false] at hx
      rcases hx with rfl | rfl <;> exact hl _ (letter_low _)
    · exact hl _ ((nameBy_good _).2.2 x (List.mem_of_mem_take hx))
section
variable {P : Program} {w : World} {K : PySem.W.Frag} {mg : Str → Option Value} {base : Heap}
abbrev spNames (K : PySem.W.Frag) : Sp := SpF (fun x : Addr × List Int × Int => [.ref x.1, .int x.2.2]) (fun x H => SqL K H x.1 (x.2.1.map V.int) ∧ 0 ≤ x.2.2 ∧ x.2.2 ≤ 70) (fun x H => NamesV H x.2.2)
theorem x_names {σ : L2.St} {H : Hp} {ta tb : TE} {E : XK} {l : Addr} {ns : List Int} {n : Int} (h1 : Ev ta σ H (.ref l)) (h2 : Ev tb σ H (.int n)) (hl : SqL K H l (ns.map V.int)) (hn : 0 ≤ n ∧ n ≤ 70) : EvX (tCall (spNames K) [] E (tCons ta (tCons tb tNil))) σ H (NamesV H n) := x_call2 (x_ev h1) (x_ev h2) (by
  rintro _ _ H1 e rfl rfl
  exact sx_of (l, ns, n) (fun H2 e2 => ⟨ex_l (e.trans e2) hl, hn.1, hn.2⟩) fun _ _ _ e2 _ ⟨a, ns, h1, h2, h3⟩ => ⟨a, ns, h1, fresh_back (e.trans e2) h2, h3⟩)
theorem ok_law_names (T : Txt K mg) : FnOk P w K mg base CX0 2 T.a_law_names T.d_law_names ["_law_script", "_law_size"] (spNames K) := by
  refine T.h_law_names.F.ok sc_law_names (fun vs H Q E h => ?_) (fun cdv A outer s H vs Q E hr h => ?_)
  · obtain ⟨c, rfl, _⟩ := h
    rfl
  · obtain ⟨⟨l, ns, n⟩, rfl, ⟨hl, hn0, hn7⟩, k⟩ := h
    simp only at hl hn0 hn7 k
    refine ⟨_, (pss_cons (ps_set (i := 2) sc_law_names.nd rfl (by first | exact Or.inl rfl | exact Or.inr rfl) (pe_lst pa_nil)) (pss_cons (ps_for PassesOwn.never rfl (pi_range1 (by rfl) T.n_range (pa_cons (pv 1) pa_nil)) (pg_name (i := 3) sc_law_names.nd rfl (by first | exact Or.inl rfl | exact Or.inr rfl)) (pss_cons (ps_set (i := 4) sc_law_names.nd rfl (by first | exact Or.inl rfl | exact Or.inr rfl) pe_str) (pss_cons (ps_set (i := 5) sc_law_names.nd rfl (by first | exact Or.inl rfl | exact Or.inr rfl) (pe_slice sl_str (pe_call (ok_law_name_by T) (hr.mono (by decide)) rfl T.h_law_name_by.m T.h_law_name_by.F.kp T.h_law_name_by.b .nil pass0 (pa_cons (pe_op op_add (pe_call (ok_law_cell_at T) (hr.mono (by decide)) rfl T.h_law_cell_at.m T.h_law_cell_at.F.kp T.h_law_cell_at.b .nil pass0 (pa_cons (pv 0) (pa_cons pe_int pa_nil))) (pe_op op_mul pe_int (pv 3))) pa_nil)) po_none (po_some pe_int))) (pss_one (ps_expr (pe_bm PySem.F.plainAttrs_list PySem.F.slot_list_append PySem.F.type_list_append mt_append (pv 2) (pa_cons (pe_op op_add_str (pe_op op_add_str (pe_ix ix_str (pv 4) (pe_op op_mod (pe_op op_add (pe_op op_mul (pv 3) pe_int) (pe_call (ok_law_cell_at T) (hr.mono (by decide)) rfl T.h_law_cell_at.m T.h_law_cell_at.F.kp T.h_law_cell_at.b .nil pass0 (pa_cons (pv 0) (pa_cons pe_int pa_nil)))) pe_int) (fun _ _ => rfl)) (pe_ix ix_str (pv 4) (pe_op op_fdiv (pv 3) pe_int) (fun _ _ => rfl))) (pv 5)) pa_nil))))))) (pss_one (ps_ret (pv 2))))), ?_⟩
    refine q_asgL (el_lst ea_nil (by decide)) fun a H1 ha0 e1 ha1 => ?_
    refine q_forR1 (n := n) (ea_cons (ev_var rfl) ea_nil) ⟨hn0, by omega⟩ (fun i σ' H' => ∃ s3 s4 s5, σ' = [some (.ref l), some (.int n), some (.ref a), s3, s4, s5] ∧ Ex H H' ∧ H' a = some (.lst (nmS ((List.range i).map (nmAt (cellAt ns 1) (cellAt ns 2))))))
      (fun H2 e2 => ⟨none, none, none, rfl, e1.trans e2, e2 _ _ ha1⟩) ?_ ?_
    · rintro i σ' H2 hi ⟨s3, s4, s5, rfl, e2, ha2⟩
      have hl2 := ex_l e2 hl
      refine q_asg (v := .str (ofL alpha)) (ev_is ev_c (by rw [alpha_str])) fun H3 e3 => ?_
      have hl3 := ex_l e3 hl2
      have hng := nameBy_good (cellAt ns 1 + 7 * (i : Int))
      refine q_asg (v := .str (ofL ((nameBy (cellAt ns 1 + 7 * (i : Int))).take 6))) (ev_slS1 (n := 6) (by walk_at "ev") ev_c (by have := hng.2.1; omega)) fun H4 e4 => ?_
      have hl4 := ex_l e4 hl3
      have hix : (i : Int) / 26 % 26 = (i : Int) / 26 := Int.emod_eq_of_lt (by omega) (by omega)
      have h2 := alpha_ix ((i : Int) / 26)
      rw [hix] at h2
      refine s_app (xs := nmS ((List.range i).map (nmAt (cellAt ns 1) (cellAt ns 2)))) (v := .str (ofL (nmAt (cellAt ns 1) (cellAt ns 2) i))) ((e3.trans e4) _ _ ha2) (ev_var rfl) ?_ (by unfold nmS; rw [List.length_map, List.length_map, List.length_range]; omega) fun H5 e5 => ?_
      · unfold nmAt
        rw [← ofL_app, ← ofL_app]
        refine ev_op (ev_op (ev_op (y := .int (((i : Int) * 17 + cellAt ns 2) % 26)) (ev_var rfl) (by walk_at "ev") (rv_ixS (by rw [ofL_len]; decide) (alpha_ix _))) (ev_op (y := .int ((i : Int) / 26)) (ev_var rfl) (by walk_at "ev") (rv_ixS (by rw [ofL_len]; decide) h2)) (rv_addStr (Nat.le_of_ble_eq_true rfl))) (ev_var rfl) (rv_addStr (by
              show (ofL [letter ((i : Int) * 17 + cellAt ns 2)] ++ ofL [letter ((i : Int) / 26)]).length + (ofL ((nameBy (cellAt ns 1 + 7 * (i : Int))).take 6)).length ≤ 100000
              rw [ofL_app, ofL_len, ofL_len, List.length_take]
              show 2 + _ ≤ 100000
              omega))
      · refine ⟨_, _, _, rfl, Ex.mut (e2.trans ((e3.trans e4).trans e5)) ha0, ?_⟩
        rw [upd_same, List.range_succ]
        unfold nmS
        rw [List.map_append, List.map_append]
        rfl
    · rintro σ' H2 ⟨s3, s4, s5, rfl, e2, ha2⟩
      refine s_ret (ev_var rfl) fun H3 e3 => k _ _ (e2.trans e3) ⟨a, _, rfl, ha0, e3 _ _ ha2, by rw [List.length_map, List.length_range]; omega, names_nd (by omega), fun m hm => ?_⟩
      obtain ⟨j, _, rfl⟩ := List.mem_map.mp hm
      exact nmAt_ok _ _ _
theorem ev_dnin {d : Addr} {kvs : List (Key × V)} {z : Str} {u : V} {σ : L2.St} {H : Hp} {ty td : TE} (hy : Ev ty σ H (.str z)) (hd : Ev td σ H (.ref d)) (hk : H d = some (.dK kvs)) (hv : valV kvs (.inr z) = some u) : Ev (tDNotIn ty td) σ H (.bl false) := fun H1 e Q q =>
  hy H1 e _ fun H2 e2 => hd H2 (e.trans e2) _ fun H3 e3 => ⟨d, some u, rfl, .inl ⟨kvs, .inr z, .inl (((e.trans e2).trans e3) _ _ hk), rfl, hv.symm⟩, q H3 (e2.trans e3)⟩
theorem ev_dgetR {d a : Addr} {kvs : List (Key × V)} {z : Str} {σ : L2.St} {H : Hp} {ty td : TE} (hd : Ev td σ H (.ref d)) (hy : Ev ty σ H (.str z)) (hk : H d = some (.dK kvs)) (hv : valV kvs (.inr z) = some (.ref a)) : Ev (tDGet td ty) σ H (.ref a) := fun H1 e Q q =>
  hd H1 e _ fun H2 e2 => hy H2 (e.trans e2) _ fun H3 e3 => ⟨d, .ref a, rfl, .inl ⟨kvs, .inr z, .inl (((e.trans e2).trans e3) _ _ hk), rfl, hv.symm⟩, q H3 (e2.trans e3)⟩
abbrev spPair (K : PySem.W.Frag) : Sp := SpF (fun x : (Addr × Addr) × (Nm × Nm) × List (Key × V) => [.ref x.1.1, .ref x.1.2]) (fun x H => SqT K H x.1.1 [.str (ofL x.2.1.1), .str (ofL x.2.1.2)] ∧ H x.1.2 = some (.dK x.2.2) ∧ (∃ u, valV x.2.2 (.inr (ofL x.2.1.1)) = some u) ∧ ∃ u, valV x.2.2 (.inr (ofL x.2.1.2)) = some u) (fun _ _ => Is (.bl true))
theorem sv_pair {H : Hp} {t g : Addr} {p : Nm × Nm} {kvs : List (Key × V)} (h1 : SqT K H t [.str (ofL p.1), .str (ofL p.2)]) (h2 : H g = some (.dK kvs)) (h3 : ∃ u, valV kvs (.inr (ofL p.1)) = some u) (h4 : ∃ u, valV kvs (.inr (ofL p.2)) = some u) : SpV (spPair K) [.ref t, .ref g] H (.bl true) :=
  sv_of (sx_of ((t, g), p, kvs) (fun H2 e2 => ⟨ex_t e2 h1, e2 _ _ h2, h3, h4⟩) fun _ _ _ _ _ h => h)
theorem ok_law_pair (T : Txt K mg) : FnOk P w K mg base CX0 1 T.a_law_pair T.d_law_pair ["_law_pair_here", "_law_known"] (spPair K) := by
  refine T.h_law_pair.F.ok sc_law_pair (fun vs H Q E h => ?_) (fun cdv A outer s H vs Q E hr h => ?_)
  · obtain ⟨c, rfl, _⟩ := h
    rfl
  · obtain ⟨⟨⟨t, g⟩, ⟨p1, p2⟩, kvs⟩, rfl, ⟨ht, hg, ⟨u1, h1⟩, ⟨u2, h2⟩⟩, k⟩ := h
    simp only at ht hg h1 h2 k
    refine ⟨_, (pss_cons (ps_if (PW.pt (pw_or (pt_not (pt_val (pe_callB call_isi (by rfl) T.n_isinstance (by decide +kernel) (pa_cons (pv 0) (pa_cons (pe_bltn (v := .ty "tuple") (u := .type "tuple") (by rfl) T.n_tuple (by decide +kernel) rfl) pa_nil))))) (pw_or1 (pt_cmpR op_ne (pe_callB call_len_seq (by rfl) T.n_len PySem.boot_len (pa_cons (pv 0) pa_nil)) pe_int (nomark _))))) (pss_one (ps_ret pe_bl)) pss_nil) (pss_cons (ps_for PassesOwn.never rfl (pi_tup (pv 0)) (pg_name (i := 2) sc_law_pair.nd rfl (by first | exact Or.inl rfl | exact Or.inr rfl)) (pss_one (ps_if (PW.pt (pw_or (pt_not (pt_val (pe_callB call_isi (by rfl) T.n_isinstance (by decide +kernel) (pa_cons (pv 2) (pa_cons (pe_bltn (v := .ty "str") (u := .type "str") (by rfl) T.n_str (by decide +kernel) rfl) pa_nil))))) (pw_or1 (pt_cmp (pc_dnotin (hu_of hr) (pv 2) (pv 1)))))) (pss_one (ps_ret pe_bl)) pss_nil))) (pss_one (ps_ret pe_bl)))), ?_⟩
    refine q_when (b := !true || !decide (V.int 2 = V.int 2)) (et_or (et_not (et_B (ev_cb (ea_cons (ev_var rfl) (ea_cons ev_c ea_nil)) (rc_isi (a := "tuple") (fun H1 e1 => tyx_tup (ex_t e1 ht)) (by decide +kernel))))) fun _ => et_test (ev_op (ev_cb (ea_cons (ev_var rfl) ea_nil) (rc_lenT ht)) ev_c (rv_ne rfl))) (fun hb _ _ => by simp at hb) (fun _ H1 e1 => ?_)
    refine q_forT (K := K) (a := t) (xs := [.str (ofL p1), .str (ofL p2)]) (g := gName 2) (ev_var rfl) (ex_t e1 ht) (fun i σ' H' => ∃ s2, σ' = [some (.ref t), some (.ref g), s2] ∧ Ex H H') (fun H2 e2 => ⟨none, rfl, e1.trans e2⟩) (fun i σ' H' _ ⟨_, _, eH⟩ => ex_t eH ht) ?_ ?_
    · rintro i x σ' H2 hx ⟨s2, rfl, e2⟩
      have hz : ∃ (z : Str) (u : V), x = .str z ∧ valV kvs (.inr z) = some u := by
        rcases i with _ | _ | i
        · obtain rfl := Option.some.inj hx
          exact ⟨_, _, rfl, h1⟩
        · obtain rfl := Option.some.inj hx
          exact ⟨_, _, rfl, h2⟩
        · simp at hx
      obtain ⟨z, u, rfl, hv⟩ := hz
      show (fun _ => _) _
      exact s_when (σ := [some (.ref t), some (.ref g), some (.str z)]) (b := !true || false) (et_or (et_not (et_B (ev_cb (ea_cons (ev_var rfl) (ea_cons ev_c ea_nil)) (rc_isi (x := .str z) (a := "str") (b := true) (fun _ _ => .base (.str _)) (by decide +kernel))))) fun _ => et_B (ev_dnin (ev_var rfl) (ev_var rfl) (e2 _ _ hg) hv)) (fun hb _ _ => by cases hb) (fun _ H3 e3 => ⟨_, rfl, e2.trans e3⟩)
    · rintro σ' H2 ⟨s2, rfl, e2⟩
      exact s_ret ev_c fun H3 e3 => k _ _ (e2.trans e3) rfl
end

/-! ### what is known, as it stands -/
theorem nodup_len {α : Type} [DecidableEq α] : ∀ {a b : List α}, a.Nodup → (∀ x ∈ a, x ∈ b) → a.length ≤ b.length
  | [], b, _, _ => Nat.zero_le _
  | x :: a, b, hn, h => by
    have hx := h x List.mem_cons_self
    rw [List.nodup_cons] at hn
    have h2 := nodup_len (a := a) (b := b.erase x) hn.2 fun y hy => (List.mem_erase_of_ne (fun z => hn.1 (by rw [← z]; exact hy))).mpr (h y (List.mem_cons_of_mem _ hy))
    rw [List.length_erase_of_mem hx] at h2
    have h3 : 0 < b.length := List.length_pos_of_mem hx
    rw [List.length_cons]
    omega
section
variable {K : PySem.W.Frag} {σ : L2.St} {H H' : Hp} {ta tb te td tk tv : TE} {P : VP} {D : Ends} {tz : TS}
theorem s_dputX {d : Addr} {kvs : List (Key × V)} {k : Key} (hv : EvX tv σ H P) (hd : Ev td σ H (.ref d)) (hk : Ev tk σ H (kV k)) (h : H d = some (.dK kvs)) (hl : kvs.length < 100000) (hm : ∀ v H1 H2, Ex H1 H2 → P v H1 → P v H2)
    (c : ∀ v H1, Ex H H1 → P v H1 → D.nx σ (upd H1 d (.dK (putK kvs k v)))) : sDPut td tk tv D σ H :=
  hv H (Ex.refl H) _ fun v H1 e1 p1 => hd H1 e1 _ fun H2 e2 => hk H2 (e1.trans e2) _ fun H3 e3 => ⟨d, _, rfl, DPut.k (((e1.trans e2).trans e3) _ _ h) (sz_lt hl), c v H3 ((e1.trans e2).trans e3) (hm v H1 H3 (e2.trans e3) p1)⟩
theorem dpAll_names {ns : List Nm} : DpAll K H (nmS ns) (ns.map fun n => PyData.str (ofL n)) := by
  unfold nmS
  induction ns with
  | nil => exact .nil
  | cons n ns ih => exact .cons (.str _) ih
theorem can_names : ∀ {ns : List Nm}, (∀ n ∈ ns, NmOk n) → PyData.canLayAll0 (ns.map fun n => PyData.str (ofL n)) = true
  | [], _ => by simp [PyData.canLayAll0]
  | n :: ns, h => by
    have h1 := (h n List.mem_cons_self).2.2
    rw [List.map_cons, PyData.canLayAll0, can_names fun m hm => h m (List.mem_cons_of_mem _ hm), Bool.and_true, PyData.canLay0]
    show (ofL n).cps.all _ = true
    show n.toArray.all _ = true
    rw [List.all_toArray, List.all_eq_true]
    intro x hx
    exact decide_eq_true (h1 x hx)
theorem dep_names : ∀ {ns : List Nm}, PyData.depthAll (ns.map fun n => PyData.str (ofL n)) = 0
  | [] => rfl
  | n :: ns => by rw [List.map_cons, PyData.depthAll, dep_names, PyData.depth]; rfl
theorem ev_neNames {ns : List Nm} {a b : Addr} (hn : ∀ n ∈ ns, NmOk n) (h1 : Ev ta σ H (.ref a)) (h2 : Ev tb σ H (.ref b)) (ha : SqL K H a (nmS ns)) (hb : SqL K H b (nmS ns)) : Ev (tOp (rNeD K) ta tb) σ H (.bl false) := by
  have sh : SeqAt.shaped (.list (ns.map fun n => PyData.str (ofL n))) = true := by
    unfold SeqAt.shaped
    rw [PyData.canLay0, can_names hn, PyData.depth, dep_names]
    rfl
  refine ev_op h1 h2 ?_
  have := rv_neD (K := K) (H := H) (fun H2 e2 => .lst (ex_l e2 ha) dpAll_names) (fun H2 e2 => .lst (ex_l e2 hb) dpAll_names) sh sh
  rw [SeqAt.eqv_refl _ (SeqAt.canLay_of_shaped sh)] at this
  exact this
theorem x_listL {a : Addr} {xs : List V} (h : Ev ta σ H (.ref a)) (ha : SqL K H a xs) : EvX (tCB (fun xs H Q => ∃ p ys, xs = [.ref p] ∧ (SqL K H p ys ∨ SqT K H p ys) ∧ ∀ l, H l = none → Q (.ref l) (upd H l (.lst ys))) (tCons ta tNil)) σ H (Nw H (.lst xs)) := fun H1 e Q q =>
  h H1 e _ fun H2 e2 => ⟨a, xs, rfl, .inl (ex_l (e.trans e2) ha), fun p hp => q _ _ (e2.trans (Ex.new hp)) ⟨p, rfl, fresh_back (e.trans e2) hp, upd_same⟩⟩
end
def KeysAre (ks : List (Key × V)) (ms : List Nm) : Prop := ks.map (·.1) = ms.map fun n => (Sum.inr (ofL n) : Key)
theorem keys_put {ks : List (Key × V)} {ms : List Nm} {n : Nm} {v : V} (h : KeysAre ks ms) (hn : ms.Nodup) : ∃ ms', KeysAre (putK ks (.inr (ofL n)) v) ms' ∧ ms'.Nodup ∧ ∀ m, m ∈ ms' ↔ m ∈ ms ∨ m = n := by
  have hin : (ks.any fun kv => decide (kv.1 = (.inr (ofL n) : Key))) = true ↔ n ∈ ms := by
    rw [List.any_eq_true]
    constructor
    · rintro ⟨x, hx, hk⟩
      have h1 : (Sum.inr (ofL n) : Key) ∈ ks.map (·.1) := List.mem_map.mpr ⟨x, hx, of_decide_eq_true hk⟩
      unfold KeysAre at h
      rw [h] at h1
      obtain ⟨m, hm, he⟩ := List.mem_map.mp h1
      rw [← ofL_inj (Sum.inr.inj he)]
      exact hm
    · intro hm
      have h1 : (Sum.inr (ofL n) : Key) ∈ ms.map fun n => (Sum.inr (ofL n) : Key) := List.mem_map.mpr ⟨n, hm, rfl⟩
      unfold KeysAre at h
      rw [← h] at h1
      obtain ⟨x, hx, he⟩ := List.mem_map.mp h1
      exact ⟨x, hx, decide_eq_true he⟩
  by_cases c : n ∈ ms
  · refine ⟨ms, ?_, hn, fun m => ⟨.inl, fun z => z.elim id fun z => by rw [z]; exact c⟩⟩
    unfold KeysAre putK
    rw [if_pos (hin.mpr c), List.map_map, ← h]
    refine List.map_congr_left fun x _ => ?_
    show (if x.1 = _ then (x.1, v) else x).1 = x.1
    split <;> rfl
  · refine ⟨ms ++ [n], ?_, ?_, fun m => by rw [List.mem_append, List.mem_singleton]⟩
    · unfold KeysAre putK
      rw [if_neg (fun z => c (hin.mp z)), List.map_append, List.map_append, ← h]
      rfl
    · rw [List.nodup_append]
      exact ⟨hn, by simp, fun a ha b hb z => c (by rw [List.mem_singleton.mp hb] at z; rw [← z]; exact ha)⟩
/-- name by name a dict of those that it knows -/
def EntA (H : Hp) (g : Addr) (kvs : List (Key × V)) (n : Nm) (s : Nm → Prop) : Prop := ∃ d ks ms, valV kvs (.inr (ofL n)) = some (.ref d) ∧ d ≠ g ∧ H d = some (.dK ks) ∧ KeysAre ks ms ∧ ms.Nodup ∧ ∀ m, m ∈ ms ↔ s m
def KnA (H : Hp) (g : Addr) (ns : List Nm) (S : Kw) (kvs : List (Key × V)) : Prop := H g = some (.dK kvs) ∧ kvs.length ≤ 1000 ∧ ∀ n ∈ ns, EntA H g kvs n (S n)
theorem EntA.mono {H H' : Hp} {g : Addr} {kvs : List (Key × V)} {n : Nm} {s : Nm → Prop} (e : Ex H H') (h : EntA H g kvs n s) : EntA H' g kvs n s := let ⟨d, ks, ms, a, b, c, r⟩ := h; ⟨d, ks, ms, a, b, e _ _ c, r⟩
theorem KnA.mono {H H' : Hp} {g : Addr} {ns : List Nm} {S : Kw} {kvs : List (Key × V)} (e : Ex H H') (h : KnA H g ns S kvs) : KnA H' g ns S kvs := ⟨e _ _ h.1, h.2.1, fun n hn => (h.2.2 n hn).mono e⟩
theorem EntA.put {H : Hp} {g : Addr} {kvs : List (Key × V)} {n m : Nm} {s : Nm → Prop} {u : V} (hne : n ≠ m) (h : EntA H g kvs n s) : EntA (upd H g (.dK (putK kvs (.inr (ofL m)) u))) g (putK kvs (.inr (ofL m)) u) n s := by
  obtain ⟨d, ks, ms, a, b, c, r⟩ := h
  refine ⟨d, ks, ms, ?_, b, ?_, r⟩
  · rw [valV_put, if_neg (fun z => hne (ofL_inj (Sum.inr.inj z)))]
    exact a
  · rw [upd_ne b]
    exact c
theorem EntA.new {H : Hp} {g d : Addr} {kvs ks : List (Key × V)} {ms : List Nm} {m : Nm} {s : Nm → Prop} (hd : H d = some (.dK ks)) (hne : d ≠ g) (hk : KeysAre ks ms) (hn : ms.Nodup) (hs : ∀ x, x ∈ ms ↔ s x) : EntA (upd H g (.dK (putK kvs (.inr (ofL m)) (.ref d)))) g (putK kvs (.inr (ofL m)) (.ref d)) m s :=
  ⟨d, ks, ms, by rw [valV_put, if_pos rfl], hne, by rw [upd_ne hne]; exact hd, hk, hn, hs⟩

/-! ### the law -/
section
variable {K : PySem.W.Frag} {σ : L2.St} {H : Hp} {ti : TE} {tl : TA} {v : V}
theorem ev_ixLst {vs : List V} {i : Int} (h : EvA tl σ H vs) (hl : vs.length ≤ 100000) (hi : Ev ti σ H (.int i)) (hv : atI vs i = some v) : Ev (tOp (rIxL K) (tLst tl) ti) σ H v := fun H1 e Q q =>
  x_lst h hl H1 e _ fun u H2 e2 ⟨p, eu, _, hp⟩ => hi H2 (e.trans e2) _ fun H3 e3 => by
    subst eu
    exact ⟨p, vs, i, v, rfl, rfl, sq_of (e3 _ _ hp), hv, q H3 (e2.trans e3)⟩
end
def rLenD : List V → Hp → VK → Prop := fun xs H Q => ∃ (a : Addr) (kvs : List (Key × V)), xs = [V.ref a] ∧ H a = some (.dK kvs) ∧ Q (.int kvs.length) H
theorem rc_lenD {a : Addr} {kvs : List (Key × V)} (h : H a = some (.dK kvs)) : RC rLenD [.ref a] H (.int (kvs.length : Int)) := fun H1 e _ q => ⟨a, kvs, rfl, e _ _ h, q H1 (Ex.refl H1)⟩
theorem callP_len (nm : List Nm) : (callP nm).length ≤ 2 * nm.length := by
  match nm with
  | [] => exact Nat.le_refl 0
  | [_] => exact Nat.zero_le _
  | [_, _] => exact (show 1 ≤ 4 by decide)
  | [_, _, _] => exact (show 3 ≤ 6 by decide)
  | n1 :: n2 :: n3 :: n4 :: r =>
    show ((spk n1 r ++ [(n1, n2), (n3, n4), (n1, n3), (n2, n4)]) ++ spk n1 r).length ≤ _
    unfold spk
    simp only [List.length_append, List.length_map, List.length_cons, List.length_nil]
    omega
theorem due_small {nm : List Nm} (h : nm.length < 4) : atI [V.int 0, V.int 0, V.int 1, V.int 3] (nm.length : Int) = some (.int ((callP nm).length : Int)) := by
  match nm, h with
  | [], _ => rfl
  | [_], _ => rfl
  | [_, _], _ => rfl
  | [_, _, _], _ => rfl
theorem due_big {nm : List Nm} (h : ¬ nm.length < 4) : ((callP nm).length : Int) = 2 * (nm.length : Int) - 4 := by
  match nm, h with
  | [], h => exact absurd (by decide) h
  | [_], h => exact absurd (by simp) h
  | [_, _], h => exact absurd (by simp) h
  | [_, _, _], h => exact absurd (by simp) h
  | n1 :: n2 :: n3 :: n4 :: r, _ =>
    show (((spk n1 r ++ [(n1, n2), (n3, n4), (n1, n3), (n2, n4)]) ++ spk n1 r).length : Int) = _
    unfold spk
    simp only [List.length_append, List.length_map, List.length_cons, List.length_nil]
    omega
theorem spk_mem {f : Nm} {r : List Nm} {p : Nm × Nm} (h : p ∈ spk f r) : p.1 = f ∧ p.2 ∈ r := by
  obtain ⟨n, hn, rfl⟩ := List.mem_map.mp h
  exact ⟨rfl, hn⟩
theorem callP_mem {nm : List Nm} {p : Nm × Nm} (h : p ∈ callP nm) : p.1 ∈ nm ∧ p.2 ∈ nm := by
  have small : ∀ {f : Nm} {r : List Nm}, p ∈ spk f r ++ (spk f r).dropLast → p.1 ∈ f :: r ∧ p.2 ∈ f :: r := fun {f r} h => by
    have h1 : p ∈ spk f r := by
      rcases List.mem_append.mp h with h | h
      · exact h
      · rw [List.dropLast_eq_take] at h
        exact List.mem_of_mem_take h
    have h2 := spk_mem h1
    exact ⟨by rw [h2.1]; exact List.mem_cons_self, List.mem_cons_of_mem _ h2.2⟩
  match nm, h with
  | [], h => cases h
  | [_], h => exact small h
  | [_, _], h => exact small h
  | [_, _, _], h => exact small h
  | n1 :: n2 :: n3 :: n4 :: r, h =>
    have big : p ∈ spk n1 r → p.1 ∈ n1 :: n2 :: n3 :: n4 :: r ∧ p.2 ∈ n1 :: n2 :: n3 :: n4 :: r := fun h => by
      have h2 := spk_mem h
      exact ⟨by rw [h2.1]; exact List.mem_cons_self, by simp [h2.2]⟩
    rcases List.mem_append.mp (show p ∈ (spk n1 r ++ [(n1, n2), (n3, n4), (n1, n3), (n2, n4)]) ++ spk n1 r from h) with h | h
    · rcases List.mem_append.mp h with h | h
      · exact big h
      · simp only [List.mem_cons, List.not_mem_nil, or_false] at h
        rcases h with rfl | rfl | rfl | rfl <;> exact ⟨by simp, by simp⟩
    · exact big h
theorem EntA.congr {H : Hp} {g : Addr} {kvs : List (Key × V)} {n : Nm} {s s' : Nm → Prop} (h : EntA H g kvs n s) (e : ∀ m, s m ↔ s' m) : EntA H g kvs n s' := let ⟨d, ks, ms, a, b, c, k, r, z⟩ := h; ⟨d, ks, ms, a, b, c, k, r, fun m => (z m).trans (e m)⟩
theorem KeysAre.len {ks : List (Key × V)} {ms : List Nm} (h : KeysAre ks ms) : ks.length = ms.length := by
  have := congrArg List.length h
  rw [List.length_map, List.length_map] at this
  exact this
theorem s0_sub {nm : List Nm} (i : Nat) : ∀ x, x ∈ nm → ∀ n, kn S0 ((callP nm).take i) x n → n ∈ nm :=
  kn_sub (A := fun n => n ∈ nm) (fun p hp => callP_mem (List.mem_of_mem_take hp)) fun x hx n h => by
    rw [show n = x from h]
    exact hx
section
variable {P : Program} {w : World} {K : PySem.W.Frag} {mg : Str → Option Value} {base : Heap}
theorem ok_law (T : Txt K mg) : FnOk P w K mg base CX0 3 T.a_law T.d_law ["_law_script"] (spLaw K) := by
  refine T.h_law.F.ok sc_law (fun vs H Q E h => ?_) (fun cdv A outer s H vs Q E hr h => ?_)
  · obtain ⟨a, ns, rfl, _⟩ := h
    rfl
  · obtain ⟨l, ns, rfl, hl, _, k⟩ := h
    refine ⟨_, (pss_cons (ps_set (i := 1) sc_law.nd rfl (by first | exact Or.inl rfl | exact Or.inr rfl) (pe_op op_mod (pe_call (ok_law_cell_at T) (hr.mono (by decide)) rfl T.h_law_cell_at.m T.h_law_cell_at.F.kp T.h_law_cell_at.b .nil pass0 (pa_cons (pv 0) (pa_cons pe_int pa_nil))) pe_int)) (pss_cut (ps_if (pt_cmpR op_eq (pe_op op_mod (pe_op op_fdiv (pe_call (ok_law_cell_at T) (hr.mono (by decide)) rfl T.h_law_cell_at.m T.h_law_cell_at.F.kp T.h_law_cell_at.b .nil pass0 (pa_cons (pv 0) (pa_cons pe_int pa_nil))) pe_int) pe_int) pe_int (nomark _)) (pss_one (ps_set (i := 1) sc_law.nd rfl (by first | exact Or.inl rfl | exact Or.inr rfl) (pe_op op_add pe_int (pe_op op_mod (pe_op op_fdiv (pe_call (ok_law_cell_at T) (hr.mono (by decide)) rfl T.h_law_cell_at.m T.h_law_cell_at.F.kp T.h_law_cell_at.b .nil pass0 (pa_cons (pv 0) (pa_cons pe_int pa_nil))) pe_int) pe_int)))) pss_nil) (pss_cons (ps_set (i := 2) sc_law.nd rfl (by first | exact Or.inl rfl | exact Or.inr rfl) (pe_call (ok_law_names T) (hr.mono (by decide)) rfl T.h_law_names.m T.h_law_names.F.kp T.h_law_names.b .nil pass0 (pa_cons (pv 0) (pa_cons (pv 1) pa_nil)))) (pss_cons (ps_set (i := 3) sc_law.nd rfl (by first | exact Or.inl rfl | exact Or.inr rfl) (pe_callTy call_list_of (by rfl) T.n_list (by decide +kernel) (pa_cons (pv 2) pa_nil))) (pss_cons (ps_set (i := 4) sc_law.nd rfl (by first | exact Or.inl rfl | exact Or.inr rfl) (pe_call (ok_calls T) (hr.mono (by decide)) rfl T.h_calls.m T.h_calls.F.kp T.h_calls.b .nil pass0 (pa_cons (pv 3) pa_nil))) (pss_cons (ps_set (i := 5) sc_law.nd rfl (by first | exact Or.inl rfl | exact Or.inr rfl) (pe_op op_sub (pe_op op_mul pe_int (pv 1)) pe_int)) (pss_cut (ps_if (pt_cmpR op_lt (pv 1) pe_int (nomark _)) (pss_one (ps_set (i := 5) sc_law.nd rfl (by first | exact Or.inl rfl | exact Or.inr rfl) (pe_ix ix_list (pe_lst (pa_cons pe_int (pa_cons pe_int (pa_cons pe_int (pa_cons pe_int pa_nil))))) (pv 1) (fun _ _ => rfl)))) pss_nil) (pss_cons (ps_if (PW.pt (pw_or (pt_not (pt_val (pe_callB call_isi (by rfl) T.n_isinstance (by decide +kernel) (pa_cons (pv 4) (pa_cons (pe_bltn (v := .ty "list") (u := .type "list") (by rfl) T.n_list (by decide +kernel) rfl) pa_nil))))) (pw_or (pt_cmpR op_ne (pe_callB call_len_seq (by rfl) T.n_len PySem.boot_len (pa_cons (pv 4) pa_nil)) (pv 5) (nomark _)) (pw_or1 (pt_cmpR (op_neD hr.units) (pv 3) (pv 2) (nomark _)))))) (pss_one (ps_ret pe_bl)) pss_nil) (pss_cons (ps_set (i := 6) sc_law.nd rfl (by first | exact Or.inl rfl | exact Or.inr rfl) pe_dnewK) (pss_cons (ps_for PassesOwn.never rfl (pi_list (pv 2)) (pg_name (i := 7) sc_law.nd rfl (by first | exact Or.inl rfl | exact Or.inr rfl)) (pss_one (ps_dput (hu_of hr) (pv 6) (pv 7) (pe_disp (pps_cons (pv 7) pe_bl pps_nil) (by rfl) (by rfl) (fun z => by cases z) (by decide)) rfl))) (pss_cons (ps_for PassesOwn.never rfl (pi_list (pv 4)) (pg_name (i := 8) sc_law.nd rfl (by first | exact Or.inl rfl | exact Or.inr rfl)) (pss_cons (ps_if (pt_not (pt_val (pe_call (ok_law_pair T) (hr.mono (by decide)) rfl T.h_law_pair.m T.h_law_pair.F.kp T.h_law_pair.b .nil pass0 (pa_cons (pv 8) (pa_cons (pv 6) pa_nil))))) (pss_one (ps_ret pe_bl)) pss_nil) (pss_cons (ps_set (i := 9) sc_law.nd rfl (by first | exact Or.inl rfl | exact Or.inr rfl) (pe_callTy call_dictD (by rfl) T.n_dict (by decide +kernel) (pa_cons (pe_dget (hu_of hr) (pv 6) (pe_ix ix_tup (pv 8) pe_int (fun _ _ => rfl)) (fun _ _ => rfl)) pa_nil))) (pss_cons (ps_lock (ps_for PassesOwn.never rfl (pi_keys (pe_dget (hu_of hr) (pv 6) (pe_ix ix_tup (pv 8) pe_int (fun _ _ => rfl)) (fun _ _ => rfl))) (pg_name (i := 7) sc_law.nd rfl (by first | exact Or.inl rfl | exact Or.inr rfl)) (pss_one (ps_dput (hu_of hr) (pv 9) (pv 7) pe_bl rfl)))) (pss_cons (ps_dput (hu_of hr) (pv 6) (pe_ix ix_tup (pv 8) pe_int (fun _ _ => rfl)) (pv 9) rfl) (pss_one (ps_dput (hu_of hr) (pv 6) (pe_ix ix_tup (pv 8) pe_int (fun _ _ => rfl)) (pe_callTy call_dictD (by rfl) T.n_dict (by decide +kernel) (pa_cons (pv 9) pa_nil)) rfl))))))) (pss_cons (ps_for PassesOwn.never rfl (pi_list (pv 2)) (pg_name (i := 7) sc_law.nd rfl (by first | exact Or.inl rfl | exact Or.inr rfl)) (pss_one (ps_if (pt_cmpR op_ne (pe_callB call_lenD (by rfl) T.n_len PySem.boot_len (pa_cons (pe_dget (hu_of hr) (pv 6) (pv 7) (fun _ _ => rfl)) pa_nil)) (pv 1) (nomark _)) (pss_one (ps_ret pe_bl)) pss_nil))) (pss_one (ps_ret pe_bl)))))))))))))), ?_⟩
    have m1 := Int.emod_nonneg (cellAt ns 0) (by decide : (9 : Int) ≠ 0)
    have m2 := Int.emod_lt_of_pos (cellAt ns 0) (by decide : (0 : Int) < 9)
    have m3 := Int.emod_nonneg (cellAt ns 0 / 36) (by decide : (62 : Int) ≠ 0)
    have m4 := Int.emod_lt_of_pos (cellAt ns 0 / 36) (by decide : (0 : Int) < 62)
    refine q_asg (v := .int (cellAt ns 0 % 9)) (by walk_at "ev") fun H1 e1 => ?_
    have hl1 := ex_l e1 hl
    refine q_cut (M := fun σ' H' => ∃ n : Int, 0 ≤ n ∧ n ≤ 70 ∧ σ' = [some (.ref l), some (.int n), none, none, none, none, none, none, none, none] ∧ Ex H H') ?_ ?_
    · refine s_when (by walk_at "ev") (fun hb H2 e2 => ?_) (fun hb H2 e2 => ⟨_, m1, by omega, rfl, e1.trans e2⟩)
      have hl2 := ex_l e2 hl1
      exact s_asg (v := .int (9 + cellAt ns 0 / 36 % 62)) (by walk_at "ev") fun H3 e3 => ⟨_, by omega, by omega, rfl, (e1.trans e2).trans e3⟩
    clear m1 m2 m3 m4 hl1 e1
    rintro _ H2 ⟨n, hn0, hn7, rfl, e2⟩
    refine qx_asg (x_names (K := K) (n := n) (ev_var rfl) (ev_var rfl) (ex_l e2 hl) ⟨hn0, hn7⟩) fun v H3 e3 hv => ?_
    obtain ⟨a, nm, rfl, _, ha, hnl, hnd, hok⟩ := hv
    have hla : nm.length ≤ 70 := by omega
    refine qx_asg (x_listL (K := K) (ev_var rfl) (sq_of ha)) fun v H4 e4 hv => ?_
    obtain ⟨b, rfl, _, hb⟩ := hv
    refine qx_asg (P := RowP K H4 (callP nm)) (x_call1 (x_ev (ev_var (v := .ref b) rfl)) ?_) fun v H5 e5 hv => ?_
    · rintro _ H5 e5 rfl
      exact sx_of (b, nm) (fun H6 e6 => ⟨sq_of ((e5.trans e6) _ _ hb), Nat.zero_le _, by show nm.length ≤ 100; omega⟩) fun _ _ _ e6 _ ⟨r, ts, a1, a2, a3⟩ => ⟨r, ts, a1, fresh_back (e5.trans e6) a2, a3⟩
    obtain ⟨r, ts, rfl, _, hr1, hP⟩ := hv
    have hrl : ts.length = (callP nm).length := Paired.length hP
    have hcl := callP_len nm
    have hb5 := e5 _ _ hb
    have ha5 := (e4.trans e5) _ _ ha
    refine q_asg (v := .int (2 * n - 4)) (by walk_at "ev") fun H6 e6 => ?_
    refine q_cut (M := fun σ' H' => σ' = [some (.ref l), some (.int n), some (.ref a), some (.ref b), some (.ref r), some (.int ((callP nm).length : Int)), none, none, none, none] ∧ Ex H5 H') ?_ ?_
    · refine s_when (by walk_at "ev") (fun hb H7 e7 => ?_) (fun hb H7 e7 => ?_)
      · have h4 : nm.length < 4 := by have := of_decide_eq_true hb; omega
        exact s_asg (v := .int ((callP nm).length : Int)) (ev_ixLst (K := K) (vs := [.int 0, .int 0, .int 1, .int 3]) (i := n) (by walk_at "ev") (by decide) (ev_var rfl) (by rw [← hnl]; exact due_small h4)) fun H8 e8 => ⟨rfl, (e6.trans e7).trans e8⟩
      · have h4 : ¬ nm.length < 4 := by have := of_decide_eq_false hb; omega
        have e : 2 * n - 4 = ((callP nm).length : Int) := by rw [due_big h4]; omega
        rw [e]
        exact ⟨rfl, e6.trans e7⟩
    clear e6
    rintro _ H7 ⟨rfl, e7⟩
    refine q_when (b := !true || (!decide (V.int ((callP nm).length : Int) = V.int ((callP nm).length : Int)) || false)) (et_or (et_not (et_B (ev_cb (ea_cons (ev_var rfl) (ea_cons ev_c ea_nil)) (rc_isi (a := "list") (fun H1 e1 => tyx_lst (sq_of ((e7.trans e1) _ _ hr1))) (by decide +kernel))))) fun _ => et_or (et_test (ev_op (ev_is (ev_cb (ea_cons (ev_var rfl) ea_nil) (rc_lenL (sq_of (e7 _ _ hr1)))) (by rw [List.length_map, hrl])) (ev_var rfl) (rv_ne rfl))) fun _ => et_test (ev_neNames (K := K) hok (ev_var rfl) (ev_var rfl) (sq_of (e7 _ _ hb5)) (sq_of (e7 _ _ ha5)))) (fun hb _ _ => by simp at hb) (fun _ H8 e8 => ?_)
    have e58 := e7.trans e8
    have ha8 := e58 _ _ ha5
    have hr8 := e58 _ _ hr1
    have hP8 := hP.mono e58
    clear hb5 ha5 hb ha hr1 hP e58 e7 e8 e5 e4 e3 e2 hl
    refine qx_asg x_dnew fun v H9 e9 hv => ?_
    obtain ⟨g, rfl, hg0, hg1⟩ := hv
    refine q_forLn (xs := nmS nm) (a := a) (ev_var rfl) (sq_of (K := K) (e9 _ _ ha8)) (fun i σ' H' => ∃ kvs s7, σ' = [some (.ref l), some (.int n), some (.ref a), some (.ref b), some (.ref r), some (.int ((callP nm).length : Int)), some (.ref g), s7, none, none] ∧ Ex H8 H' ∧ KnA H' g (nm.take i) S0 kvs ∧ kvs.length ≤ i)
      (fun H1 e1 => ⟨[], none, rfl, e9.trans e1, ⟨e1 _ _ hg1, Nat.zero_le _, fun n hn => by rw [List.take_zero] at hn; cases hn⟩, Nat.le_refl 0⟩) (fun i σ' H' _ ⟨_, _, _, eH, _⟩ => sq_of (eH _ _ ha8)) ?_ ?_
    · rintro i x σ' H1 hx ⟨kvs, s7, rfl, e1, hK, hkl⟩
      unfold nmS at hx
      rw [List.getElem?_map] at hx
      cases hmi : nm[i]? with
      | none => rw [hmi] at hx; cases hx
      | some m =>
        rw [hmi] at hx
        obtain rfl := Option.some.inj hx
        have hi : i < nm.length := (List.getElem?_eq_some_iff.mp hmi).1
        refine s_dputX (P := Nw H1 (.dK [(.inr (ofL m), .bl true)])) (k := .inr (ofL m)) (x_disp1 (ev_var rfl) ev_c) (ev_var rfl) (ev_var rfl) hK.1 (by omega) (fun v H1 H2 e ⟨p, a, b, c⟩ => ⟨p, a, b, e _ _ c⟩) fun v H2 e2 hv => ?_
        obtain ⟨d, rfl, hd0, hd1⟩ := hv
        have hne : d ≠ g := fun z => by rw [z, hK.1] at hd0; cases hd0
        refine ⟨_, _, rfl, Ex.mut (e1.trans e2) hg0, ⟨upd_same, by have := putK_len (kvs := kvs) (k := .inr (ofL m)) (v := .ref d); omega, fun m' hm' => ?_⟩, Nat.le_trans putK_len (by omega)⟩
        by_cases c : m' = m
        · subst c
          exact EntA.new (ms := [m']) hd1 hne rfl (by simp) fun x => by
            rw [List.mem_singleton]
            exact Iff.rfl
        · refine EntA.put c ((hK.2.2 m' ?_).mono e2)
          rw [List.take_succ, hmi] at hm'
          rcases List.mem_append.mp hm' with h | h
          · exact h
          · exact absurd (List.mem_singleton.mp h) c
    rintro σ' H1 ⟨kvs, s7, rfl, e1, hK, hkl⟩
    rw [show (nmS nm).length = nm.length by unfold nmS; rw [List.length_map]] at hK hkl
    rw [List.take_length] at hK
    refine q_forLn (xs := ts.map V.ref) (a := r) (ev_var rfl) (sq_of (K := K) (e1 _ _ hr8)) (fun i σ' H' => ∃ kvs s7 s8 s9, σ' = [some (.ref l), some (.int n), some (.ref a), some (.ref b), some (.ref r), some (.int ((callP nm).length : Int)), some (.ref g), s7, s8, s9] ∧ Ex H8 H' ∧ KnA H' g nm (kn S0 ((callP nm).take i)) kvs ∧ kvs.length ≤ 70 + 2 * i)
      (fun H2 e2 => ⟨kvs, s7, none, none, rfl, e1.trans e2, hK.mono e2, by omega⟩) (fun i σ' H' _ ⟨_, _, _, _, _, eH, _⟩ => sq_of (eH _ _ hr8)) ?_ ?_
    · clear hK hkl e1 s7 kvs
      rintro i x σ' H1 hx ⟨kvs, s7, s8, s9, rfl, e1, hK, hkl⟩
      rw [List.getElem?_map] at hx
      cases hti : ts[i]? with
      | none => rw [hti] at hx; cases hx
      | some t =>
        rw [hti] at hx
        obtain rfl := Option.some.inj hx
        obtain ⟨⟨p1, p2⟩, hp, ht8⟩ := paired_at hP8 hti
        have hi : i < (callP nm).length := (List.getElem?_eq_some_iff.mp hp).1
        obtain ⟨hm1, hm2⟩ := callP_mem (List.mem_of_getElem? hp)
        simp only at hm1 hm2 ht8
        have hS := s0_sub (nm := nm) i
        have hkn : kn S0 ((callP nm).take (i + 1)) = stp (kn S0 ((callP nm).take i)) (p1, p2) := by
          rw [List.take_succ, hp, kn_app]
          rfl
        rw [hkn]
        generalize kn S0 ((callP nm).take i) = S at hK hS
        have ht1 := ex_t e1 ht8
        obtain ⟨d1, k1, ms1, v1, n1, hd1, ka1, nd1, hs1⟩ := hK.2.2 p1 hm1
        obtain ⟨d2, k2, ms2, v2, n2, hd2, ka2, nd2, hs2⟩ := hK.2.2 p2 hm2
        refine q_when (b := !true) (et_not (et_B (ev_call (ea_cons (ev_var rfl) (ea_cons (ev_var rfl) ea_nil)) (sv_pair (K := K) (p := (p1, p2)) ht1 hK.1 ⟨_, v1⟩ ⟨_, v2⟩)))) (fun hb _ _ => by cases hb) (fun _ H2 e2 => ?_)
        have hK2 := hK.mono e2
        have ht2 := ex_t e2 ht1
        have hd12 := e2 _ _ hd1
        have hd22 := e2 _ _ hd2
        have e12 := e1.trans e2
        refine qx_asg (x_dcopy (ev_dgetR (ev_var rfl) (ev_op (ev_var rfl) ev_c (rv_ixT ht2 rfl)) hK2.1 v1) hd12) fun v H3 e3 hv => ?_
        obtain ⟨bo, rfl, hbo0, hbo1⟩ := hv
        have hbd : bo ≠ d2 := fun z => by rw [z, hd22] at hbo0; cases hbo0
        have hbg : bo ≠ g := fun z => by rw [z, hK2.1] at hbo0; cases hbo0
        refine q_lock (e3 _ _ hd22) fun od => ?_
        have eL : Ex (upd H2 d2 (.frz od (.dK k2))) (upd H3 d2 (.frz od (.dK k2))) := ex_upd2 e3
        have hgL : upd H2 d2 (.frz od (.dK k2)) g = some (.dK kvs) := by rw [upd_ne (Ne.symm n2)]; exact hK2.1
        have htL : SqT K (upd H2 d2 (.frz od (.dK k2))) t [.str (ofL p1), .str (ofL p2)] := lock_t hd22 ht2
        have hb2 : upd H3 d2 (.frz od (.dK k2)) bo = some (.dK k1) := by rw [upd_ne hbd]; exact hbo1
        have hbF : upd H2 d2 (.frz od (.dK k2)) bo = none := by rw [upd_ne hbd]; exact hbo0
        have hdF : upd H2 d2 (.frz od (.dK k2)) d2 = some (.frz od (.dK k2)) := upd_same
        have hun : ∀ H', Ex (upd H2 d2 (.frz od (.dK k2))) H' → Ex H2 (upd H' d2 (.dK k2)) := fun H' e => unlock hd22 e
        generalize upd H2 d2 (.frz od (.dK k2)) = HL at eL hgL htL hbF hdF hun
        have sub1 : ∀ m ∈ ms1, m ∈ nm := fun m hm => hS p1 hm1 m ((hs1 m).mp hm)
        have sub2 : ∀ m ∈ ms2, m ∈ nm := fun m hm => hS p2 hm2 m ((hs2 m).mp hm)
        refine s_forKeys (kvs := k2) (ev_dgetR (ev_var rfl) (ev_op (ev_var rfl) ev_c (rv_ixT (ex_t eL htL) rfl)) (eL _ _ hgL) v2) upd_same (fun j σ' H' => ∃ kb mb s7, σ' = [some (.ref l), some (.int n), some (.ref a), some (.ref b), some (.ref r), some (.int ((callP nm).length : Int)), some (.ref g), s7, some (.ref t), some (.ref bo)] ∧ Ex HL H' ∧ H' bo = some (.dK kb) ∧ KeysAre kb mb ∧ mb.Nodup ∧ ∀ m, m ∈ mb ↔ m ∈ ms1 ∨ m ∈ ms2.take j)
          (fun H4 e4 => ⟨k1, ms1, s7, rfl, eL.trans e4, e4 _ _ hb2, ka1, nd1, fun m => by rw [List.take_zero]; simp⟩) ?_ ?_ ?_
        · rintro m σ' H' ⟨_, _, _, rfl, eH, _⟩
          exact eH _ _ hdF
        · rintro j key u σ' H4 hkv ⟨kb, mb, s7, rfl, e4, hb4, kab, ndb, hsb⟩
          have hkj : ∃ m, ms2[j]? = some m ∧ key = .inr (ofL m) := by
            have h1 : (k2.map (·.1))[j]? = some key := by rw [List.getElem?_map, hkv]; rfl
            unfold KeysAre at ka2
            rw [ka2, List.getElem?_map] at h1
            cases c : ms2[j]? with
            | none => rw [c] at h1; cases h1
            | some m =>
              rw [c] at h1
              exact ⟨m, rfl, (Option.some.inj h1).symm⟩
          obtain ⟨m, hmj, rfl⟩ := hkj
          have hbl : mb.length ≤ nm.length := nodup_len ndb fun x hx => ((hsb x).mp hx).elim (sub1 x) fun h => sub2 x (List.mem_of_mem_take h)
          refine s_dput (k := .inr (ofL m)) (v := .bl true) ev_c (ev_var rfl) (ev_var rfl) hb4 (by rw [kab.len]; omega) fun H5 e5 => ?_
          obtain ⟨mb', q1, q2, q3⟩ := keys_put (n := m) (v := .bl true) kab ndb
          refine ⟨_, mb', _, rfl, Ex.mut (e4.trans e5) hbF, upd_same, q1, q2, fun x => ?_⟩
          rw [q3, hsb, List.take_succ, hmj]
          show _ ↔ _ ∨ x ∈ ms2.take j ++ [m]
          rw [List.mem_append, List.mem_singleton]
          exact or_assoc
        · rintro σ' H4 ⟨kb, mb, s7, rfl, e4, hb4, kab, ndb, hsb⟩
          refine ⟨e4 _ _ hdF, ?_⟩
          rw [ka2.len, List.take_length] at hsb
          have hbl : mb.length ≤ nm.length := nodup_len ndb fun x hx => ((hsb x).mp hx).elim (sub1 x) (sub2 x)
          have e5 := hun _ e4
          have hb5 : upd H4 d2 (.dK k2) bo = some (.dK kb) := by rw [upd_ne hbd]; exact hb4
          generalize upd H4 d2 (.dK k2) = H5 at e5 hb5
          dsimp only
          refine s_dput (D := { nx := _, rt := _, ct := _, bk := _ }) (k := .inr (ofL p1)) (v := .ref bo) (ev_var rfl) (ev_var rfl) (ev_op (ev_var rfl) ev_c (rv_ixT (ex_t e5 ht2) rfl)) (e5 _ _ hK2.1) (by have := hK2.2.1; omega) fun H6 e6 => ?_
          have e26 := e5.trans e6
          have hK6 := hK2.mono e26
          have hb6 := e6 _ _ hb5
          have E1 : Ex H8 (upd H6 g (.dK (putK kvs (.inr (ofL p1)) (.ref bo)))) := Ex.mut (e12.trans e26) hg0
          have ht6 : SqT K (upd H6 g (.dK (putK kvs (.inr (ofL p1)) (.ref bo)))) t [.str (ofL p1), .str (ofL p2)] := ex_t E1 ht8
          have hbU : upd H6 g (.dK (putK kvs (.inr (ofL p1)) (.ref bo))) bo = some (.dK kb) := by rw [upd_ne hbg]; exact hb6
          have hgU : upd H6 g (.dK (putK kvs (.inr (ofL p1)) (.ref bo))) g = some (.dK (putK kvs (.inr (ofL p1)) (.ref bo))) := upd_same
          have ent1 : ∀ m ∈ nm, EntA (upd H6 g (.dK (putK kvs (.inr (ofL p1)) (.ref bo)))) g (putK kvs (.inr (ofL p1)) (.ref bo)) m (fun z => if m = p1 then S p1 z ∨ S p2 z else S m z) := fun m hm => by
            by_cases c : m = p1
            · subst c
              refine EntA.new hb6 hbg kab ndb fun z => ?_
              rw [if_pos rfl, hsb, hs1, hs2]
            · exact (EntA.put c (hK6.2.2 m hm)).congr fun z => by rw [if_neg c]
          have hpl1 : (putK kvs (.inr (ofL p1)) (.ref bo)).length ≤ kvs.length + 1 := putK_len
          generalize putK kvs (.inr (ofL p1)) (.ref bo) = kvs1 at E1 ht6 hbU hgU ent1 hpl1
          generalize upd H6 g (.dK kvs1) = H6' at E1 ht6 hbU hgU ent1
          refine s_dputX (P := Nw H6' (.dK kb)) (k := .inr (ofL p2)) (x_dcopy (ev_var rfl) hbU) (ev_var rfl) (ev_op (ev_var rfl) ev_c (rv_ixT ht6 rfl)) hgU (by omega) (fun v H1 H2 e ⟨p, a, b, c⟩ => ⟨p, a, b, e _ _ c⟩) fun v H7 e7 hv => ?_
          obtain ⟨bc, rfl, hbc0, hbc1⟩ := hv
          have hcg : bc ≠ g := fun z => by rw [z, hgU] at hbc0; cases hbc0
          refine ⟨_, _, _, _, rfl, Ex.mut (E1.trans e7) hg0, ⟨upd_same, by have := putK_len (kvs := kvs1) (k := .inr (ofL p2)) (v := .ref bc); omega, fun m hm => ?_⟩, by have := putK_len (kvs := kvs1) (k := .inr (ofL p2)) (v := .ref bc); omega⟩
          by_cases c : m = p2
          · subst c
            refine EntA.new hbc1 hcg kab ndb fun z => ?_
            rw [stp_r, hsb, hs1, hs2]
          · refine (EntA.put c ((ent1 m hm).mono e7)).congr fun z => ?_
            by_cases c1 : m = p1
            · subst c1
              rw [if_pos rfl, stp_l]
            · rw [if_neg c1, stp_o c1 c]
    · clear hK hkl e1 s7 kvs
      rintro σ' H1 ⟨kvs, s7, s8, s9, rfl, e1, hK, hkl⟩
      rw [List.length_map, hrl, List.take_length] at hK
      have hall := all_know hnd
      refine q_forLn (xs := nmS nm) (a := a) (ev_var rfl) (sq_of (K := K) (e1 _ _ ha8)) (fun i σ' H' => ∃ s7, σ' = [some (.ref l), some (.int n), some (.ref a), some (.ref b), some (.ref r), some (.int ((callP nm).length : Int)), some (.ref g), s7, s8, s9] ∧ Ex H1 H')
        (fun H2 e2 => ⟨s7, rfl, e2⟩) (fun i σ' H' _ ⟨_, _, eH⟩ => sq_of ((e1.trans eH) _ _ ha8)) ?_ ?_
      · rintro i x σ' H2 hx ⟨s7, rfl, e2⟩
        unfold nmS at hx
        rw [List.getElem?_map] at hx
        cases hmi : nm[i]? with
        | none => rw [hmi] at hx; cases hx
        | some m =>
          rw [hmi] at hx
          obtain rfl := Option.some.inj hx
          have hm := List.mem_of_getElem? hmi
          obtain ⟨d, ks, ms, v1, n1, hd1, ka, nd, hs⟩ := (hK.mono e2).2.2 m hm
          have hlen : ks.length = nm.length := by
            rw [ka.len]
            have h1 := nodup_len nd fun x hx => (hall m hm x).mp ((hs x).mp hx)
            have h2 := nodup_len hnd fun x hx => (hs x).mpr ((hall m hm x).mpr hx)
            omega
          refine s_when (b := !decide (V.int n = V.int n)) (et_test (ev_op (ev_is (ev_cb (ea_cons (ev_dgetR (ev_var rfl) (ev_var rfl) (hK.mono e2).1 v1) ea_nil) (rc_lenD hd1)) (by rw [hlen, hnl])) (ev_var rfl) (rv_ne rfl))) (fun hb _ _ => by simp at hb) (fun _ H3 e3 => ⟨_, rfl, e2.trans e3⟩)
      · rintro σ' H2 ⟨s7, rfl, e2⟩
        exact s_ret ev_c fun H3 _ => k H3
end

theorem all_mk {l : PySem.W.OpenLaw} {w : World} {K : PySem.W.Frag} {h : Heap} {mg : Str → Option Value} {fa : Addr} (X : K.In h) (G : h.Ns mainGlobals mg) (hfa : mg "law" = some (.ref fa))
    {f0 : Addr} {od0 an0 : Option Addr} {sl0 : Array (Option Value)} {oc0 kV0 dc0 pm0 cd0 ct0 : Value}
    {f1 : Addr} {od1 an1 : Option Addr} {sl1 : Array (Option Value)} {oc1 kV1 dc1 pm1 cd1 ct1 : Value}
    {f2 : Addr} {od2 an2 : Option Addr} {sl2 : Array (Option Value)} {oc2 kV2 dc2 pm2 cd2 ct2 : Value}
    {f3 : Addr} {od3 an3 : Option Addr} {sl3 : Array (Option Value)} {oc3 kV3 dc3 pm3 cd3 ct3 : Value}
    {f4 : Addr} {od4 an4 : Option Addr} {sl4 : Array (Option Value)} {oc4 kV4 dc4 pm4 cd4 ct4 : Value}
    {f5 : Addr} {od5 an5 : Option Addr} {sl5 : Array (Option Value)} {oc5 kV5 dc5 pm5 cd5 ct5 : Value}
    {f6 : Addr} {od6 an6 : Option Addr} {sl6 : Array (Option Value)} {oc6 kV6 dc6 pm6 cd6 ct6 : Value}
    {tk_CORE : Tok}
    (a0 : PySem.W.nsIn K mainGlobals "calls" = some (some (.ref f0))) (l0 : K.lookup f0 = some ⟨oc0, od0, .func (PySem.W.fnOf "calls" "calls" (defArgs s_calls) (defBody s_calls) (defScope s_calls) .none kV0 dc0 pm0 an0 cd0 ct0), sl0⟩) (c0 : PySem.W.codeIn K cd0 "calls" = true) (k0 : PySem.W.keepIn K (.ref f0) = true)
    (a1 : PySem.W.nsIn K mainGlobals "_around_the_first" = some (some (.ref f1))) (l1 : K.lookup f1 = some ⟨oc1, od1, .func (PySem.W.fnOf "_around_the_first" "_around_the_first" (defArgs s_around_the_first) (defBody s_around_the_first) (defScope s_around_the_first) .none kV1 dc1 pm1 an1 cd1 ct1), sl1⟩) (c1 : PySem.W.codeIn K cd1 "_around_the_first" = true) (k1 : PySem.W.keepIn K (.ref f1) = true)
    (a2 : PySem.W.nsIn K mainGlobals "_law_cell_at" = some (some (.ref f2))) (l2 : K.lookup f2 = some ⟨oc2, od2, .func (PySem.W.fnOf "_law_cell_at" "_law_cell_at" (defArgs s_law_cell_at) (defBody s_law_cell_at) (defScope s_law_cell_at) .none kV2 dc2 pm2 an2 cd2 ct2), sl2⟩) (c2 : PySem.W.codeIn K cd2 "_law_cell_at" = true) (k2 : PySem.W.keepIn K (.ref f2) = true)
    (a3 : PySem.W.nsIn K mainGlobals "_law_name_by" = some (some (.ref f3))) (l3 : K.lookup f3 = some ⟨oc3, od3, .func (PySem.W.fnOf "_law_name_by" "_law_name_by" (defArgs s_law_name_by) (defBody s_law_name_by) (defScope s_law_name_by) .none kV3 dc3 pm3 an3 cd3 ct3), sl3⟩) (c3 : PySem.W.codeIn K cd3 "_law_name_by" = true) (k3 : PySem.W.keepIn K (.ref f3) = true)
    (a4 : PySem.W.nsIn K mainGlobals "_law_names" = some (some (.ref f4))) (l4 : K.lookup f4 = some ⟨oc4, od4, .func (PySem.W.fnOf "_law_names" "_law_names" (defArgs s_law_names) (defBody s_law_names) (defScope s_law_names) .none kV4 dc4 pm4 an4 cd4 ct4), sl4⟩) (c4 : PySem.W.codeIn K cd4 "_law_names" = true) (k4 : PySem.W.keepIn K (.ref f4) = true)
    (a5 : PySem.W.nsIn K mainGlobals "_law_pair" = some (some (.ref f5))) (l5 : K.lookup f5 = some ⟨oc5, od5, .func (PySem.W.fnOf "_law_pair" "_law_pair" (defArgs s_law_pair) (defBody s_law_pair) (defScope s_law_pair) .none kV5 dc5 pm5 an5 cd5 ct5), sl5⟩) (c5 : PySem.W.codeIn K cd5 "_law_pair" = true) (k5 : PySem.W.keepIn K (.ref f5) = true)
    (a6 : PySem.W.nsIn K mainGlobals "law" = some (some (.ref f6))) (l6 : K.lookup f6 = some ⟨oc6, od6, .func (PySem.W.fnOf "law" "law" (defArgs s_law) (defBody s_law) (defScope s_law) .none kV6 dc6 pm6 an6 cd6 ct6), sl6⟩) (c6 : PySem.W.codeIn K cd6 "law" = true) (k6 : PySem.W.keepIn K (.ref f6) = true)
    (z_dict : PySem.W.nsIn K mainGlobals "dict" = some none)
    (z_isinstance : PySem.W.nsIn K mainGlobals "isinstance" = some none)
    (z_len : PySem.W.nsIn K mainGlobals "len" = some none)
    (z_list : PySem.W.nsIn K mainGlobals "list" = some none)
    (z_range : PySem.W.nsIn K mainGlobals "range" = some none)
    (z_str : PySem.W.nsIn K mainGlobals "str" = some none)
    (z_tuple : PySem.W.nsIn K mainGlobals "tuple" = some none)
    (g_CORE : PySem.W.nsIn K mainGlobals "CORE" = some (some (.int (4) tk_CORE))) :
    ∃ fd : FuncData, (∀ (s : Shared) (v : Value), BindsTo s fd ⟨[v], []⟩ [("_law_script", v)]) ∧ ∀ base : Heap, K.In base → base.Ns mainGlobals mg → FnOk l.prog w K mg base CX0 3 fa fd ["_law_script"] (spLaw K) := by
  have e := hfa.symm.trans (PySem.W.mg_of X G a6)
  cases e
  have F0 := fun_mk (st := s_calls) l0 c0 k0
  have b0 := F0.binds (ps := ["names"]) fun _ _ _ _ _ _ us hl => match us, hl with | [_], _ => rfl
  have F1 := fun_mk (st := s_around_the_first) l1 c1 k1
  have b1 := F1.binds (ps := ["names"]) fun _ _ _ _ _ _ us hl => match us, hl with | [_], _ => rfl
  have F2 := fun_mk (st := s_law_cell_at) l2 c2 k2
  have b2 := F2.binds (ps := ["_law_script", "_law_k"]) fun _ _ _ _ _ _ us hl => match us, hl with | [_, _], _ => rfl
  have F3 := fun_mk (st := s_law_name_by) l3 c3 k3
  have b3 := F3.binds (ps := ["_law_cell"]) fun _ _ _ _ _ _ us hl => match us, hl with | [_], _ => rfl
  have F4 := fun_mk (st := s_law_names) l4 c4 k4
  have b4 := F4.binds (ps := ["_law_script", "_law_size"]) fun _ _ _ _ _ _ us hl => match us, hl with | [_, _], _ => rfl
  have F5 := fun_mk (st := s_law_pair) l5 c5 k5
  have b5 := F5.binds (ps := ["_law_pair_here", "_law_known"]) fun _ _ _ _ _ _ us hl => match us, hl with | [_, _], _ => rfl
  have F6 := fun_mk (st := s_law) l6 c6 k6
  have b6 := F6.binds (ps := ["_law_script"]) fun _ _ _ _ _ _ us hl => match us, hl with | [_], _ => rfl
  let T : Txt K mg := { a_calls := f0, d_calls := _, h_calls := ⟨PySem.W.mg_of X G a0, F0, b0⟩, a_around_the_first := f1, d_around_the_first := _, h_around_the_first := ⟨PySem.W.mg_of X G a1, F1, b1⟩, a_law_cell_at := f2, d_law_cell_at := _, h_law_cell_at := ⟨PySem.W.mg_of X G a2, F2, b2⟩, a_law_name_by := f3, d_law_name_by := _, h_law_name_by := ⟨PySem.W.mg_of X G a3, F3, b3⟩, a_law_names := f4, d_law_names := _, h_law_names := ⟨PySem.W.mg_of X G a4, F4, b4⟩, a_law_pair := f5, d_law_pair := _, h_law_pair := ⟨PySem.W.mg_of X G a5, F5, b5⟩, a_law := fa, d_law := _, h_law := ⟨PySem.W.mg_of X G a6, F6, b6⟩, n_dict := PySem.W.mg_none_of X G z_dict, n_isinstance := PySem.W.mg_none_of X G z_isinstance, n_len := PySem.W.mg_none_of X G z_len, n_list := PySem.W.mg_none_of X G z_list, n_range := PySem.W.mg_none_of X G z_range, n_str := PySem.W.mg_none_of X G z_str, n_tuple := PySem.W.mg_none_of X G z_tuple, v_CORE := _, g_CORE := ⟨PySem.W.mg_of X G g_CORE, ⟨_, rfl⟩⟩ }
  exact ⟨_, fun s v => .of_eq rfl, fun base _ _ => ok_law T⟩
theorem walk {l : PySem.W.OpenLaw} {q : Program} {loose : List Str} {XP : (Str → Option Value) → Heap → Prop} {YP : World → Heap → Prop} {d : DefRec} {K : Params → PySem.W.Frag} (hn : l.most = some 63) (hdf : d.params.defaults = [])
    (hY : ∀ (w : World) (h : Heap), YP w h → (K w.params).In h)
    (F : ∀ (w : World) (mg : Str → Option Value) (fa : Addr) (h : Heap), (K w.params).In h → h.Ns mainGlobals mg → mg d.name = some (.ref fa) →
      ∃ fd : FuncData, (∀ (s : Shared) (u : Value), BindsTo s fd ⟨[u], []⟩ [("_law_script", u)]) ∧ ∀ base : Heap, (K w.params).In base → base.Ns mainGlobals mg → FnOk l.prog w (K w.params) mg base CX0 3 fa fd ["_law_script"] (spLaw (K w.params))) :
    PySem.W.WalkO q loose XP YP l.row.toRowW d [] (fun f vs => PySem.call f vs) :=
  L2.walk_of (n := 63) (k := 3) (x := "_law_script") (CX := fun _ => CX0) (sp := fun w => spLaw (K w.params)) hn (by decide) hdf ⟨rfl, by decide, by decide⟩ hY F (fun _ _ a ns hl _ hS => ⟨a, ns, rfl, hS, hl, fun _ => rfl⟩) fun _ _ _ _ _ z => z
end GC
open PySem PySem.W PyProof.Rows
set_option maxRecDepth 100000 in
set_option maxHeartbeats 0 in
theorem PySem.Challenge.cw_gossipcount_k11_whole_calls_holds : PySem.Challenge.rw_gossipcount_k11_whole_calls.Holds := by
  w_on; o_law; k_head; (case hw => w_witness2)
  k_fill
  refine GC.walk (l := PySem.Challenge.rw_gossipcount_k11_whole_calls) rfl rfl (fun w h Y => PySem.W.kIn_of Y) ?F
  case F =>
    intro w mg fa h KX G hmg
    refine' GC.all_mk KX G hmg ?a0 ?l0 ?c0 ?k0 ?a1 ?l1 ?c1 ?k1 ?a2 ?l2 ?c2 ?k2 ?a3 ?l3 ?c3 ?k3 ?a4 ?l4 ?c4 ?k4 ?a5 ?l5 ?c5 ?k5 ?a6 ?l6 ?c6 ?k6 ?z_dict ?z_isinstance ?z_len ?z_list ?z_range ?z_str ?z_tuple ?g_CORE
    (case a0 => k_is)
    (case l0 => k_is)
    (case c0 => k_is)
    (case k0 => k_is)
    (case a1 => k_is)
    (case l1 => k_is)
    (case c1 => k_is)
    (case k1 => k_is)
    (case a2 => k_is)
    (case l2 => k_is)
    (case c2 => k_is)
    (case k2 => k_is)
    (case a3 => k_is)
    (case l3 => k_is)
    (case c3 => k_is)
    (case k3 => k_is)
    (case a4 => k_is)
    (case l4 => k_is)
    (case c4 => k_is)
    (case k4 => k_is)
    (case a5 => k_is)
    (case l5 => k_is)
    (case c5 => k_is)
    (case k5 => k_is)
    (case a6 => k_is)
    (case l6 => k_is)
    (case c6 => k_is)
    (case k6 => k_is)
    (case z_dict => k_is)
    (case z_isinstance => k_is)
    (case z_len => k_is)
    (case z_list => k_is)
    (case z_range => k_is)
    (case z_str => k_is)
    (case z_tuple => k_is)
    (case g_CORE => k_is)
