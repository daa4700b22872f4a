import Derived.Test.YtebkfkijlopmoaaHo24
import Derived.Maps.Ext
import Derived.Maps.OwnSet
import Derived.StringKeys
import Derived.DeepKeys4
import Derived.WideKeyEntry
/- Maps of one's own, whatever their keys and elements: a map's block as a function from keys to values; what a look-up, a store, 'm[k] op= x', clear make of it. -/
namespace Go.Proofs.Ytebkfkijlopmoaa
open Go.RowKit Go.Maps Go.ChangeMaps
open Go.WideMaps (KeyLaw)
open Go.WideElems (entry_then_store set_self)
set_option maxRecDepth 100000
set_option linter.unusedSimpArgs false
set_option linter.unusedVariables false

/-- An element reads as itself. -/
def heldElem (v : Value) : Option (DataW Value × List MemPlace) := some (.held v, [])
theorem heldElem_inv {v : Value} {d : DataW Value} {ps : List MemPlace} (h : heldElem v = some (d, ps)) : d = .held v := by
  unfold heldElem at h
  simp only [Option.some.injEq, Prod.mk.injEq] at h
  exact h.1.symm

/-- Block b is a map: what stands at each key, and how many keys there are. -/
def Mq (k : TypeId) (w : World) (b : Nat) (M : Value → Option Value) (c : Nat) : Prop :=
  ∃ D, w.ownsMap Try.prog k heldElem b c D ∧ Maps.size D = c ∧ ∀ v l z, keyOf Try.prog k v = some l → D.atKey l z = match M v with | none => z | some u => .held u

theorem Mq.has {k : TypeId} {D : DataW Value} {M : Value → Option Value} (h : ∀ v l z, keyOf Try.prog k v = some l → D.atKey l z = match M v with | none => z | some u => .held u) {v : Value} {l : Lit} (hv : keyOf Try.prog k v = some l) : Maps.has D l = (M v).isSome := by
  have h1 := fun z => h v l z hv
  cases hm : M v with
  | none =>
    rw [hm] at h1
    exact has_false_of_atKey h1
  | some u =>
    rw [hm] at h1
    exact has_true_of_atKey h1
theorem Mq.lt {k : TypeId} {w : World} {b c : Nat} {M : Value → Option Value} (h : Mq k w b M c) : b < w.heap.size := by
  obtain ⟨D, h1, _⟩ := h
  exact h1.lt
theorem Mq.block {k : TypeId} {w : World} {b c : Nat} {M : Value → Option Value} (h : Mq k w b M c) : ∃ es clock, w.heap[b]? = some (.map es clock) := by
  obtain ⟨D, ⟨es, clock, hb, _⟩, _⟩ := h
  exact ⟨es, clock, hb⟩
theorem Mq.same {k : TypeId} {w w' : World} {b c : Nat} {M : Value → Option Value} (h : Mq k w b M c) (hs : w'.heap[b]? = w.heap[b]?) : Mq k w' b M c := by
  obtain ⟨D, ⟨es, clock, hb, r⟩, h2⟩ := h
  exact ⟨D, ⟨es, clock, hs.trans hb, r⟩, h2⟩
theorem Mq.made (k : TypeId) (w : World) : Mq k (w.alloc (.map #[] 0)) w.heap.size (fun _ => none) 0 :=
  ⟨.map [], World.ownsMap_made w _ _ _, rfl, fun _ _ _ _ => rfl⟩

theorem own_size {k : TypeId} {w : World} {b n : Nat} {D : DataW Value} (h : w.ownsMap Try.prog k heldElem b n D) : w.ownsMap Try.prog k heldElem b (Maps.size D) D := by
  obtain ⟨es, clock, hb, F, _, rfl⟩ := h
  exact ⟨es, clock, hb, F, by simp [Maps.size, length_sorted], rfl⟩

/-- 'v := m[k]'. -/
theorem Mq.look {k t e : TypeId} {w : World} {b c : Nat} {M : Value → Option Value} (h : Mq k w b M c) (K : Keyed Try.prog k) (ht : Try.prog.underlying t = some (.map k e)) {z : Value} (hz : (zeroValue e).run Try.prog w = .ok z w) {v : Value} {l : Lit} (hv : keyOf Try.prog k v = some l) :
    (Instr.lookup t (.map (some b)) v false).run Try.prog w = .ok ((M v).getD z) w := by
  obtain ⟨D, h1, h2, h3⟩ := h
  obtain ⟨u, ps, hrun, hu⟩ := h1.lookup K ht hz (zd := .held z) (zp := []) rfl hv
  have hd := heldElem_inv hu
  rw [h3 v l _ hv] at hd
  have e1 : u = (M v).getD z := by
    cases hms : M v with
    | none => rw [hms] at hd; injection hd with hd; exact hd.symm
    | some u => rw [hms] at hd; injection hd with hd; exact hd.symm
  rw [hrun, e1]
/-- 'm[k] = u'. -/
theorem Mq.put {k t e : TypeId} {w : World} {b c : Nat} {M : Value → Option Value} (h : Mq k w b M c) (K : Keyed Try.prog k) (ht : Try.prog.underlying t = some (.map k e)) (hc : c < maxLen) {v : Value} {l : Lit} (hv : keyOf Try.prog k v = some l) (u : Value) (M' : Value → Option Value) (hM1 : M' v = some u) (hM2 : ∀ v', v' ≠ v → M' v' = M v') :
    ∃ w', (Instr.mapUpdate t (.map (some b)) v u).run Try.prog w = .ok () w' ∧ Mq k w' b M' (if M v = none then c + 1 else c) ∧ w.mapTurned w' b := by
  obtain ⟨D, h1, h2, h3⟩ := h
  obtain ⟨w', hrun, ho, htn⟩ := h1.store K ht hc hv (d := .held u) (ps := []) rfl
  have hsz : Maps.size (D.put l (.held u)) = if M v = none then c + 1 else c := by
    rw [size_put (h1.tidy K), Mq.has h3 hv, h2]
    cases hms : M v <;> simp
  refine ⟨w', hrun, ⟨_, ?_, hsz, fun v' l' z hv' => ?_⟩, htn⟩
  · have := own_size ho
    rw [hsz] at this
    exact this
  · by_cases hvv : v' = v
    · subst hvv
      obtain rfl : l' = l := by rw [hv] at hv'; exact (Option.some.inj hv').symm
      rw [hM1, atKey_put_same h1.isMap (K.key hv)]
    · rw [hM2 v' hvv, atKey_put_other (fun e => hvv (K.inj hv' (by rw [e]; exact hv))), h3 v' l' z hv']
end Go.Proofs.Ytebkfkijlopmoaa

