import Derived.Test.YtjkjekhbfjjnjaaHb02
import Derived.Maps.OwnSet
import Derived.StringKeys
import Derived.DeepKeys4
import Derived.WideKeyEntry
/- Maps of one's own, whatever their keys and elements: a map's block as a function from keys to values; what a look-up, a store, 'm[k] op= x', clear make of it. -/
namespace Go.Proofs.Ytjkjekhbfjjnjaa
open Go.RowKit Go.Maps Go.ChangeMaps
open Go.WideMaps (KeyLaw)
open Go.WideElems (entry_then_store set_self)
set_option maxRecDepth 100000
set_option linter.unusedSimpArgs false
set_option linter.unusedVariables false

/-- An element reads as itself. -/
def heldElem (v : Value) : Option (DataW Value × List MemPlace) := some (.held v, [])
theorem heldElem_inv {v : Value} {d : DataW Value} {ps : List MemPlace} (h : heldElem v = some (d, ps)) : d = .held v := by
  unfold heldElem at h
  simp only [Option.some.injEq, Prod.mk.injEq] at h
  exact h.1.symm

/-- Block b is a map: what stands at each key, and how many keys there are. -/
def Mq (k : TypeId) (w : World) (b : Nat) (M : Value → Option Value) (c : Nat) : Prop :=
  ∃ D, w.ownsMap Try.prog k heldElem b c D ∧ Maps.size D = c ∧ ∀ v l z, keyOf Try.prog k v = some l → D.atKey l z = match M v with | none => z | some u => .held u

theorem Mq.has {k : TypeId} {D : DataW Value} {M : Value → Option Value} (h : ∀ v l z, keyOf Try.prog k v = some l → D.atKey l z = match M v with | none => z | some u => .held u) {v : Value} {l : Lit} (hv : keyOf Try.prog k v = some l) : Maps.has D l = (M v).isSome := by
  have h1 := fun z => h v l z hv
  cases hm : M v with
  | none =>
    rw [hm] at h1
    exact has_false_of_atKey h1
  | some u =>
    rw [hm] at h1
    exact has_true_of_atKey h1
theorem Mq.lt {k : TypeId} {w : World} {b c : Nat} {M : Value → Option Value} (h : Mq k w b M c) : b < w.heap.size := by
  obtain ⟨D, h1, _⟩ := h
  exact h1.lt
theorem Mq.block {k : TypeId} {w : World} {b c : Nat} {M : Value → Option Value} (h : Mq k w b M c) : ∃ es clock, w.heap[b]? = some (.map es clock) := by
  obtain ⟨D, ⟨es, clock, hb, _⟩, _⟩ := h
  exact ⟨es, clock, hb⟩
theorem Mq.same {k : TypeId} {w w' : World} {b c : Nat} {M : Value → Option Value} (h : Mq k w b M c) (hs : w'.heap[b]? = w.heap[b]?) : Mq k w' b M c := by
  obtain ⟨D, ⟨es, clock, hb, r⟩, h2⟩ := h
  exact ⟨D, ⟨es, clock, hs.trans hb, r⟩, h2⟩
theorem Mq.made (k : TypeId) (w : World) : Mq k (w.alloc (.map #[] 0)) w.heap.size (fun _ => none) 0 :=
  ⟨.map [], World.ownsMap_made w _ _ _, rfl, fun _ _ _ _ => rfl⟩

theorem own_size {k : TypeId} {w : World} {b n : Nat} {D : DataW Value} (h : w.ownsMap Try.prog k heldElem b n D) : w.ownsMap Try.prog k heldElem b (Maps.size D) D := by
  obtain ⟨es, clock, hb, F, _, rfl⟩ := h
  exact ⟨es, clock, hb, F, by simp [Maps.size, length_sorted], rfl⟩

/-- 'v, ok := m[k]'. -/
theorem Mq.look_ok {k t e : TypeId} {w : World} {b c : Nat} {M : Value → Option Value} (h : Mq k w b M c) (K : Keyed Try.prog k) (ht : Try.prog.underlying t = some (.map k e)) {z : Value} (hz : (zeroValue e).run Try.prog w = .ok z w) {v : Value} {l : Lit} (hv : keyOf Try.prog k v = some l) :
    (Instr.lookup t (.map (some b)) v true).run Try.prog w = .ok (.tuple #[(M v).getD z, .bool (M v).isSome]) w := by
  obtain ⟨D, h1, h2, h3⟩ := h
  obtain ⟨u, ps, hrun, hu⟩ := h1.look_ok K ht hz (zd := .held z) (zp := []) rfl hv
  have hd := heldElem_inv hu
  rw [h3 v l _ hv] at hd
  have e1 : u = (M v).getD z := by
    cases hms : M v with
    | none => rw [hms] at hd; injection hd with hd; exact hd.symm
    | some u => rw [hms] at hd; injection hd with hd; exact hd.symm
  rw [hrun, e1, Mq.has h3 hv]
/-- 'v := m[k]'. -/
theorem Mq.look {k t e : TypeId} {w : World} {b c : Nat} {M : Value → Option Value} (h : Mq k w b M c) (K : Keyed Try.prog k) (ht : Try.prog.underlying t = some (.map k e)) {z : Value} (hz : (zeroValue e).run Try.prog w = .ok z w) {v : Value} {l : Lit} (hv : keyOf Try.prog k v = some l) :
    (Instr.lookup t (.map (some b)) v false).run Try.prog w = .ok ((M v).getD z) w := by
  obtain ⟨D, h1, h2, h3⟩ := h
  obtain ⟨u, ps, hrun, hu⟩ := h1.lookup K ht hz (zd := .held z) (zp := []) rfl hv
  have hd := heldElem_inv hu
  rw [h3 v l _ hv] at hd
  have e1 : u = (M v).getD z := by
    cases hms : M v with
    | none => rw [hms] at hd; injection hd with hd; exact hd.symm
    | some u => rw [hms] at hd; injection hd with hd; exact hd.symm
  rw [hrun, e1]
/-- 'm[k] = u'. -/
theorem Mq.put {k t e : TypeId} {w : World} {b c : Nat} {M : Value → Option Value} (h : Mq k w b M c) (K : Keyed Try.prog k) (ht : Try.prog.underlying t = some (.map k e)) (hc : c < maxLen) {v : Value} {l : Lit} (hv : keyOf Try.prog k v = some l) (u : Value) (M' : Value → Option Value) (hM1 : M' v = some u) (hM2 : ∀ v', v' ≠ v → M' v' = M v') :
    ∃ w', (Instr.mapUpdate t (.map (some b)) v u).run Try.prog w = .ok () w' ∧ Mq k w' b M' (if M v = none then c + 1 else c) ∧ w.mapTurned w' b := by
  obtain ⟨D, h1, h2, h3⟩ := h
  obtain ⟨w', hrun, ho, htn⟩ := h1.store K ht hc hv (d := .held u) (ps := []) rfl
  have hsz : Maps.size (D.put l (.held u)) = if M v = none then c + 1 else c := by
    rw [size_put (h1.tidy K), Mq.has h3 hv, h2]
    cases hms : M v <;> simp
  refine ⟨w', hrun, ⟨_, ?_, hsz, fun v' l' z hv' => ?_⟩, htn⟩
  · have := own_size ho
    rw [hsz] at this
    exact this
  · by_cases hvv : v' = v
    · subst hvv
      obtain rfl : l' = l := by rw [hv] at hv'; exact (Option.some.inj hv').symm
      rw [hM1, atKey_put_same h1.isMap (K.key hv)]
    · rw [hM2 v' hvv, atKey_put_other (fun e => hvv (K.inj hv' (by rw [e]; exact hv))), h3 v' l' z hv']
/-- clear(m). -/
theorem Mq.clear {k t e : TypeId} {w : World} {b c : Nat} {M : Value → Option Value} (h : Mq k w b M c) (ht : Try.prog.underlying t = some (.map k e)) (ty : TypeId) :
    ∃ w', (Builtin.clear_ #[t] ty #[.map (some b)]).run Try.prog w = .ok (.tuple #[]) w' ∧ Mq k w' b (fun _ => none) 0 ∧ w.mapTurned w' b := by
  obtain ⟨D, ⟨es, clock, hb, F, r⟩, _⟩ := h
  refine ⟨setBlock w b (.map #[] clock), ?_, ⟨.map [], ⟨#[], clock, ?_, ⟨by simp, ⟨by simp, by simp, by simp⟩, by simp⟩, Nat.le_refl _, rfl⟩, rfl, fun _ _ _ _ => rfl⟩, ⟨es, clock, #[], clock, hb, rfl⟩⟩
  · simp [Builtin.clear_, run_underlying ht, MapKept.run_getObj_map hb, MapKept.run_setObj_map _ hb, Result.andThen, setBlock]
  · have := (Array.getElem?_eq_some_iff.1 hb).1
    simp [setBlock, this]
/-- The entry that 'm[k] op= x' lays is what 'm[k] = m[k]' lays. -/
theorem entry_more {k t e : TypeId} {w : World} {b : Nat} {es : Array MapEntry} {clock : Nat} {R : Value → Option (DataW Value × List MemPlace)} (K : KeyLaw Try.prog k) (ht : Try.prog.underlying t = some (.map k e)) {z : Value} (hz : ∀ u : World, (zeroValue e).run Try.prog u = .ok z u) (hb : w.heap[b]? = some (.map es clock)) (F : Go.WideElems.Fit Try.prog k R es clock) {key : Value} {kl : Lit} (hkey : keyOf Try.prog k key = some kl) :
    ∃ (v0 : Value) (st : Nat) (W1 : World), (Instr.mapEntry t (.map (some b)) key).run Try.prog w = .ok (.tuple #[v0, goInt st]) W1 ∧ (Instr.mapUpdate t (.map (some b)) key v0).run Try.prog w = .ok () W1 ∧ (Instr.lookup t (.map (some b)) key false).run Try.prog w = .ok v0 w := by
  rcases K.find w hkey es.toList F.keys with ⟨h1, h2⟩ | ⟨j, e0, h1, h2, h3⟩
  · refine ⟨z, clock, setBlock w b (.map (es.push ⟨key, z, clock⟩) (clock + 1)), ?_, ?_, ?_⟩
    · simp [Instr.mapEntry, run_underlying ht, MapKept.run_getObj_map hb, K.check w false hkey, h1, hz, MapKept.run_setObj_map _ hb, Result.andThen, setBlock]
    · simp [Instr.mapUpdate, run_underlying ht, MapKept.run_getObj_map hb, K.check w false hkey, h1, MapKept.run_setObj_map _ hb, Result.andThen, setBlock]
    · simp [Instr.lookup, run_underlying ht, MapKept.run_getObj_map hb, K.check w _ hkey, h1, hz, Result.andThen]
  · have hj : es[j]? = some e0 := by simpa using h2
    have hsame : es.modify j (fun e => { e with key := key }) = es := by
      apply Array.ext'
      rw [Array.toList_modify, modify_eq_set _ _ _ _ h2]
      have : ({ e0 with key := key } : MapEntry) = e0 := by rw [← h3]
      rw [this]
      exact set_self _ _ _ h2
    have hsame2 : es.modify j (fun e => { e with key := key, val := e0.val }) = es := by
      apply Array.ext'
      rw [Array.toList_modify, modify_eq_set _ _ _ _ h2]
      have : ({ e0 with key := key, val := e0.val } : MapEntry) = e0 := by rw [← h3]
      rw [this]
      exact set_self _ _ _ h2
    refine ⟨e0.val, e0.born, setBlock w b (.map es clock), ?_, ?_, ?_⟩
    · simp [Instr.mapEntry, run_underlying ht, MapKept.run_getObj_map hb, K.check w false hkey, h1, hj, h3, K.stays w hkey, hsame, MapKept.run_setObj_map _ hb, Result.andThen, setBlock]
    · simp [Instr.mapUpdate, run_underlying ht, MapKept.run_getObj_map hb, K.check w false hkey, h1, hj, h3, K.stays w hkey, hsame2, MapKept.run_setObj_map _ hb, Result.andThen, setBlock]
    · simp [Instr.lookup, run_underlying ht, MapKept.run_getObj_map hb, K.check w _ hkey, h1, Result.andThen]

/-- 'm[k] op= x': the entry, then its store, each where nothing else turns the map between them; a look-up between them tells what it told. -/
theorem Mq.entry {k t e : TypeId} {w : World} {b c : Nat} {M : Value → Option Value} (h : Mq k w b M c) (K : KeyLaw Try.prog k) (ht : Try.prog.underlying t = some (.map k e)) {z : Value} (hz : ∀ u : World, (zeroValue e).run Try.prog u = .ok z u) (hc : c < maxLen) {v : Value} {l : Lit} (hv : keyOf Try.prog k v = some l) :
    ∃ (v0 : Value) (st : Nat) (W1 : World), (Instr.mapEntry t (.map (some b)) v).run Try.prog w = .ok (.tuple #[v0, goInt st]) W1 ∧ w.mapTurned W1 b ∧ (Instr.lookup t (.map (some b)) v false).run Try.prog W1 = .ok ((M v).getD z) W1 ∧
      ∀ (u : Value) (M' : Value → Option Value), M' v = some u → (∀ v', v' ≠ v → M' v' = M v') → ∀ w2 : World, w2.heap[b]? = W1.heap[b]? →
        ∃ w', (Instr.entryStore t (.map (some b)) (goInt st) u).run Try.prog w2 = .ok () w' ∧ Mq k w' b M' (if M v = none then c + 1 else c) ∧ w2.mapTurned w' b := by
  obtain ⟨D, h1, h2, h3⟩ := id h
  obtain ⟨es, clock, hb, F, hs, hD⟩ := id h1
  obtain ⟨v0, st, es1, clock1, e1, _, e2⟩ := entry_then_store K ht hz hb F hv
  obtain ⟨v1, st1, W1, g1, g2, g3⟩ := entry_more K ht hz hb F hv
  have hW1 : (setBlock w b (.map es1 clock1)).heap[b]? = some (.map es1 clock1) := by
    have := (Array.getElem?_eq_some_iff.1 hb).1
    simp [setBlock, this]
  have eW : W1 = setBlock w b (.map es1 clock1) ∧ v1 = v0 := by
    have := g1.symm.trans e1
    simp only [Result.ok.injEq, Value.tuple.injEq, Array.mk.injEq, List.cons.injEq] at this
    exact ⟨this.2, this.1.1⟩
  obtain ⟨rfl, rfl⟩ := eW
  refine ⟨v1, st, _, e1, ⟨es, clock, es1, clock1, hb, rfl⟩, ?_, fun u M' hM1 hM2 w2 hw2 => ?_⟩
  · have hl := h.look (Keyed.of_law K) ht (hz w) hv
    have e0 : v1 = (M v).getD z := by
      have := g3.symm.trans hl
      simp only [Result.ok.injEq, and_true] at this
      exact this
    obtain ⟨M2, m1, m2⟩ : ∃ M' : Value → Option Value, M' v = some v1 ∧ ∀ v', v' ≠ v → M' v' = M v' := by
      classical
      exact ⟨fun v' => if v' = v then some v1 else M v', if_pos rfl, fun v' h => if_neg h⟩
    obtain ⟨w', p1, p2, p3⟩ := h.put (Keyed.of_law K) ht hc hv v1 M2 m1 m2
    have e : w' = setBlock w b (.map es1 clock1) := by
      have := p1.symm.trans g2
      simp only [Result.ok.injEq, true_and] at this
      exact this
    rw [e] at p2
    have := p2.look (Keyed.of_law K) ht (hz _) hv
    rw [m1] at this
    rw [this, ← e0]
    rfl
  · obtain ⟨es', clock', g1', g2'⟩ := e2 w2 u (hw2.trans hW1)
    obtain ⟨w', p1, p2, p3⟩ := h.put (Keyed.of_law K) ht hc hv u M' hM1 hM2
    have e : w' = setBlock w b (.map es' clock') := by
      have := p1.symm.trans g2'
      simp only [Result.ok.injEq, true_and] at this
      exact this
    refine ⟨setBlock w2 b (.map es' clock'), g1', ?_, ⟨es1, clock1, es', clock', hw2.trans hW1, rfl⟩⟩
    refine p2.same ?_
    have l1 := (Array.getElem?_eq_some_iff.1 hb).1
    have l2 := (Array.getElem?_eq_some_iff.1 (hw2.trans hW1)).1
    rw [e]
    simp [setBlock, l1, l2]
end Go.Proofs.Ytjkjekhbfjjnjaa

