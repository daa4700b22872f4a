import Derived.Test.YtgfoogeiancecaaGreatDoorHw15
import Derived.Deep.RegionHeld3
import Derived.Test.YtgfoogeiancecaaGreatDoorHw14
import Derived.Maps.OwnSet
import Derived.StringKeys
/- The contract of the document's own Same, where both are the same files: true; nothing turns but the count of draws. -/
namespace Go.Proofs.YtgfoogeiancecaaGreatDoor
open Go.RowKit DiskMath
set_option maxRecDepth 100000
set_option linter.unusedSimpArgs false

set_option maxHeartbeats 1000000 in
theorem sameF_of [Keep] (fs : Files) (av bv : Value) (w : World) (hA : Fv w av fs) (hB : Fv w bv fs) (hb : ∀ f ∈ fs, ∀ c ∈ f.data, c < 256) (hlen : fs.length ≤ 1000) :
    Calls Tryz.prog 53 #[av, bv] w fun e w' => e = .returned (.bool true) ∧ Below w.heap.size w w' := by
  obtain ⟨-, aa, ca, rfl, h1⟩ := hA
  obtain ⟨-, ab, cb, rfl, h2⟩ := hB
  go_enter Tryz.func53, Tryz.ntmps53
  go_wp2
  go_loopg [5] fs.length (fun g s5 wr => ∃ i : Nat, i + g = fs.length ∧ s5 = .int .i64 (i : Int) ∧ ∃ k, wr = w.drewN k)
  case atStart => exact ⟨0, by simp, rfl, 0, rfl⟩
  case round =>
    obtain ⟨i, hil, rfl, kd, rfl⟩ := hrel
    by_cases hlt : i < fs.length
    · have hlti : (i : Int) < (fs.length : Int) := by omega
      have hx : fs[i]? = some fs[i] := List.getElem?_eq_getElem hlt
      obtain ⟨ba, oa, sa, rfl, a0, a1, a2, hBa, -⟩ := h1 i fs[i] hx
      obtain ⟨bb, ob, sb, rfl, b0, b1, b2, hBb, -⟩ := h2 i fs[i] hx
      have hbx := hb fs[i] (List.getElem_mem hlt)
      have y1 := fun k => str_of (hBa.drewN k) hbx
      have y2 := fun k => str_of (hBb.drewN k) hbx
      obtain ⟨a5, cap5, rfl, -⟩ := id hBa
      obtain ⟨a6, cap6, rfl, -⟩ := id hBb
      generalize fs[i] = x at *
      clear h1 h2 hb hx
      go_wp2
      go_region_held3 (fun w' => w'.cell? ⟨ba, oa + i * 3, none⟩ = some (.string x.name) ∧ w'.cell? ⟨ba, oa + i * 3 + 1, none⟩ = some (.slice a5 x.data.length cap5) ∧ w'.cell? ⟨ba, oa + i * 3 + 2, none⟩ = some (.int .i64 (x.safe : Int)) ∧ w'.cell? ⟨bb, ob + i * 3, none⟩ = some (.string x.name) ∧ w'.cell? ⟨bb, ob + i * 3 + 1, none⟩ = some (.slice a6 x.data.length cap6) ∧ w'.cell? ⟨bb, ob + i * 3 + 2, none⟩ = some (.int .i64 (x.safe : Int)) ∧
          (convert 32 9 (.slice a5 x.data.length cap5)).run Tryz.prog w' = .ok (.string (str x.data)) w' ∧ (convert 32 9 (.slice a6 x.data.length cap6)).run Tryz.prog w' = .ok (.string (str x.data)) w')
        (exact ⟨a0, a1, a2, b0, b1, b2, y1 (kd + 1), y2 (kd + 1)⟩) (fail)
      go_wp2
      go_roundg (gk - 1)
      case measure => omega
      case rel => exact ⟨i + 1, by omega, by go_num, kd + 1, rfl⟩
    · have hlti : ¬ (i : Int) < (fs.length : Int) := by omega
      go_wp2
      go_ret
      exact ⟨rfl, below_drewN (Below.refl _ _) _⟩
end Go.Proofs.YtgfoogeiancecaaGreatDoor

/- Maps keyed by names, whatever their elements: a map's block as a function from names to values; what a look-up, a store, delete and len make of it. -/
namespace Go.Proofs.YtgfoogeiancecaaGreatDoor
open Go.RowKit Go.Maps
set_option maxRecDepth 100000
set_option linter.unusedSimpArgs false

/-- An element reads as itself. -/
def heldElem (v : Value) : Option (DataW Value × List MemPlace) := some (.held v, [])
theorem heldElem_inv {v : Value} {d : DataW Value} {ps : List MemPlace} (h : heldElem v = some (d, ps)) : d = .held v := by
  unfold heldElem at h
  simp only [Option.some.injEq, Prod.mk.injEq] at h
  exact h.1.symm

def keyLit (s : ByteArray) : Lit := .string s.data.toList
theorem keyLit_inj {s t : ByteArray} (h : keyLit s = keyLit t) : s = t := by
  unfold keyLit at h
  injection h with h
  exact ByteArray.ext (Array.toList_inj.1 h)
theorem keyed : Keyed Tryz.prog 9 := string_keyed Tryz.underlying9
theorem key_of {s : ByteArray} (h : s.size ≤ maxLen) : keyOf Tryz.prog 9 (.string s) = some (keyLit s) := Go.WideMaps.keyOf_string_mk Tryz.underlying9 h
theorem keyLit_key (s : ByteArray) : WideAt.IsKeyLit (keyLit s) := trivial

/-- Block b is a map: what stands at each name, and how many names there are. -/
def Mp (w : World) (b : Nat) (M : ByteArray → Option Value) (c : Nat) : Prop :=
  ∃ D, w.ownsMap Tryz.prog 9 heldElem b c D ∧ Maps.size D = c ∧ ∀ s z, D.atKey (keyLit s) z = match M s with | none => z | some v => .held v

theorem Mp.has {D : DataW Value} {M : ByteArray → Option Value} (h : ∀ s z, D.atKey (keyLit s) z = match M s with | none => z | some v => .held v) (s : ByteArray) : Maps.has D (keyLit s) = (M s).isSome := by
  have h1 := h s
  cases hm : M s with
  | none =>
    rw [hm] at h1
    exact has_false_of_atKey h1
  | some v =>
    rw [hm] at h1
    exact has_true_of_atKey h1
theorem Mp.lt {w : World} {b c : Nat} {M : ByteArray → Option Value} (h : Mp w b M c) : b < w.heap.size := by
  obtain ⟨D, h1, _⟩ := h
  exact h1.lt
theorem Mp.kept {w w' : World} {b c : Nat} {M : ByteArray → Option Value} {row : Option Nat} (h : Mp w b M c) (hg : w.grownBy w' row) (hne : row ≠ some b) : Mp w' b M c := by
  obtain ⟨D, h1, h2, h3⟩ := h
  exact ⟨D, h1.kept hg (fun e => hne e.symm), h2, h3⟩
theorem Mp.below {w w' : World} {b c : Nat} {M : ByteArray → Option Value} (h : Mp w b M c) (hb : Below w.heap.size w w') : Mp w' b M c :=
  h.kept (row := none) ⟨hb.os, hb.tape, hb.output, hb.size, fun i hi _ => hb.block i hi⟩ (by simp)
theorem Mp.made (w : World) : Mp (w.alloc (.map #[] 0)) w.heap.size (fun _ => none) 0 :=
  ⟨.map [], World.ownsMap_made w _ _ _, rfl, fun _ _ => rfl⟩

/-- A map with one more, or another one, at a name. -/
def upd (M : ByteArray → Option Value) (s : ByteArray) (o : Option Value) : ByteArray → Option Value := fun t => if t = s then o else M t

theorem own_size {w : World} {b n : Nat} {D : DataW Value} (h : w.ownsMap Tryz.prog 9 heldElem b n D) : w.ownsMap Tryz.prog 9 heldElem b (Maps.size D) D := by
  obtain ⟨es, clock, hb, F, _, rfl⟩ := h
  exact ⟨es, clock, hb, F, by simp [Maps.size, length_sorted], rfl⟩

section
variable {w : World} {ops : Array Oper} {rest : List Oper} {o : Oper} {a : Act} {Q : Exit → Act → World → Prop}

/-- 'v, ok := m[k]'. -/
theorem wp_mp_look (hg : o.guard = none) (m x : Operand) (t e : TypeId) (hop : o.op = Op.lookup t m x true) (ht : Tryz.prog.underlying t = some (.map 9 e)) {z : Value} (hz : (zeroValue e).run Tryz.prog w = .ok z w)
    (b c : Nat) (M : ByteArray → Option Value) (hM : Mp w b M c) (hm : a.eval m = .map (some b)) (s : ByteArray) (hx : a.eval x = .string s) (hs : s.size ≤ maxLen)
    (hK : wpList Tryz.prog ops Q rest (a.put o.dst (.tuple #[(M s).getD z, .bool (M s).isSome])) w) : wpList Tryz.prog ops Q (o :: rest) a w := by
  obtain ⟨D, h1, h2, h3⟩ := hM
  refine wpList_lookup_own_ok w hg m x t hop 9 e keyed ht heldElem hz (.held z) [] rfl b c D hm h1 (.string s) (keyLit s) hx (key_of hs) (fun v ps hv => ?_)
  have hd := heldElem_inv hv
  rw [h3] at hd
  have e1 : v = (M s).getD z := by
    cases hms : M s with
    | none => rw [hms] at hd; injection hd with hd; exact hd.symm
    | some u => rw [hms] at hd; injection hd with hd; exact hd.symm
  rw [e1, Mp.has h3]
  exact hK
/-- 'v := m[k]'. -/
theorem wp_mp_at (hg : o.guard = none) (m x : Operand) (t e : TypeId) (hop : o.op = Op.lookup t m x false) (ht : Tryz.prog.underlying t = some (.map 9 e)) {z : Value} (hz : (zeroValue e).run Tryz.prog w = .ok z w)
    (b c : Nat) (M : ByteArray → Option Value) (hM : Mp w b M c) (hm : a.eval m = .map (some b)) (s : ByteArray) (hx : a.eval x = .string s) (hs : s.size ≤ maxLen)
    (hK : wpList Tryz.prog ops Q rest (a.put o.dst ((M s).getD z)) w) : wpList Tryz.prog ops Q (o :: rest) a w := by
  obtain ⟨D, h1, h2, h3⟩ := hM
  obtain ⟨v, ps, hrun, hv⟩ := h1.lookup keyed ht hz (zd := .held z) (zp := []) rfl (key_of hs)
  have hd := heldElem_inv hv
  rw [h3] at hd
  have e1 : v = (M s).getD z := by
    cases hms : M s with
    | none => rw [hms] at hd; injection hd with hd; exact hd.symm
    | some u => rw [hms] at hd; injection hd with hd; exact hd.symm
  subst e1
  refine wpList_plain hg fun K' hK' => ?_
  unfold Oper.wp
  simp [execOp, hop, hm, hx, hrun, Result.andThen]
  exact hK' _ _ hK
/-- 'm[k] = v'. -/
theorem wp_mp_put (hg : o.guard = none) (m x v : Operand) (t e : TypeId) (hop : o.op = Op.mapUpdate t m x v) (ht : Tryz.prog.underlying t = some (.map 9 e))
    (b c : Nat) (M : ByteArray → Option Value) (hM : Mp w b M c) (hc : c < maxLen) (hm : a.eval m = .map (some b)) (s : ByteArray) (hx : a.eval x = .string s) (hs : s.size ≤ maxLen) (u : Value) (hv : a.eval v = u)
    (hK : ∀ w', Mp w' b (upd M s (some u)) (if M s = none then c + 1 else c) → w.grownBy w' (some b) → wpList Tryz.prog ops Q rest (a.put o.dst undef) w') : wpList Tryz.prog ops Q (o :: rest) a w := by
  obtain ⟨D, h1, h2, h3⟩ := hM
  refine wpList_mapUpdate_own w hg m x v t hop 9 e keyed ht heldElem b c D hm h1 hc (.string s) u (keyLit s) hx hv (key_of hs) (.held u) [] rfl (fun w' ho hgr => ?_)
  have hsz : Maps.size (D.put (keyLit s) (.held u)) = if M s = none then c + 1 else c := by
    rw [size_put (h1.tidy keyed), Mp.has h3, h2]
    cases hms : M s <;> simp
  refine hK w' ⟨_, ?_, hsz, fun t' z => ?_⟩ hgr
  · have := own_size ho
    rw [hsz] at this
    exact this
  · unfold upd
    by_cases ht' : t' = s
    · subst ht'
      rw [if_pos rfl, atKey_put_same h1.isMap (keyLit_key _)]
    · rw [if_neg ht', atKey_put_other (fun e => ht' (keyLit_inj e)), h3]
/-- 'delete(m, k)'. -/
theorem wp_mp_del (hg : o.guard = none) (m x : Operand) (t e : TypeId) (hop : o.op = Op.call { callee := Callee.builtin Builtin.delete, args := #[m, x], argTypes := #[t, 9] }) (ht : Tryz.prog.underlying t = some (.map 9 e))
    (b c : Nat) (M : ByteArray → Option Value) (hM : Mp w b M c) (hm : a.eval m = .map (some b)) (s : ByteArray) (hx : a.eval x = .string s) (hs : s.size ≤ maxLen)
    (hK : ∀ w', Mp w' b (upd M s none) (if M s = none then c else c - 1) → w.grownBy w' (some b) → wpList Tryz.prog ops Q rest (a.put o.dst (.tuple #[])) w') : wpList Tryz.prog ops Q (o :: rest) a w := by
  obtain ⟨D, h1, h2, h3⟩ := hM
  refine wpList_delete_own w hg m x t 9 hop e keyed ht heldElem b c D hm h1 (.string s) (keyLit s) hx (key_of hs) (fun w' ho htn => ?_)
  have hsz : Maps.size (D.del (keyLit s)) = if M s = none then c else c - 1 := by
    have := size_del (k := keyLit s) (h1.tidy keyed)
    rw [Mp.has h3, h2] at this
    cases hms : M s with
    | none => rw [hms] at this; simp at this; simp; omega
    | some u => rw [hms] at this; simp at this; simp; omega
  refine hK w' ⟨_, ?_, hsz, fun t' z => ?_⟩ htn.grown
  · have := own_size ho
    rw [hsz] at this
    exact this
  · unfold upd
    by_cases ht' : t' = s
    · subst ht'
      rw [if_pos rfl, atKey_del_same]
    · rw [if_neg ht', atKey_del_other (fun e => ht' (keyLit_inj e)), h3]
/-- 'len(m)'. -/
theorem wp_mp_len (hg : o.guard = none) (m : Operand) (t e : TypeId) (hop : o.op = Op.call { callee := Callee.builtin Builtin.len, args := #[m], argTypes := #[t] }) (ht : Tryz.prog.underlying t = some (.map 9 e))
    (b c : Nat) (M : ByteArray → Option Value) (hM : Mp w b M c) (hm : a.eval m = .map (some b))
    (hK : wpList Tryz.prog ops Q rest (a.put o.dst (.int .i64 (c : Int))) w) : wpList Tryz.prog ops Q (o :: rest) a w := by
  obtain ⟨D, h1, h2, h3⟩ := hM
  refine wpList_len_own w hg m t hop 9 e ht heldElem b c D hm h1 ?_
  rw [h2]
  exact hK
end
end Go.Proofs.YtgfoogeiancecaaGreatDoor

