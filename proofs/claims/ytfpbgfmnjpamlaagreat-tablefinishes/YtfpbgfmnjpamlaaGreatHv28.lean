import Derived.Test.YtfpbgfmnjpamlaaGreatHv08
import Derived.Maps.OwnSet
import Derived.StringKeys
import Derived.Test.YtfpbgfmnjpamlaaGreatHv09
/- Maps keyed by names, whatever their elements: a map's block as a function from names to values; what a look-up, a store, delete and len make of it. -/
namespace Go.Proofs.YtfpbgfmnjpamlaaGreat
open Go.RowKit Go.Maps
set_option maxRecDepth 100000
set_option linter.unusedSimpArgs false

/-- An element reads as itself. -/
def heldElem (v : Value) : Option (DataW Value × List MemPlace) := some (.held v, [])
theorem heldElem_inv {v : Value} {d : DataW Value} {ps : List MemPlace} (h : heldElem v = some (d, ps)) : d = .held v := by
 unfold heldElem at h
 simp only [Option.some.injEq, Prod.mk.injEq] at h
 exact h.1.symm

def keyLit (s : ByteArray) : Lit := .string s.data.toList
theorem keyLit_inj {s t : ByteArray} (h : keyLit s = keyLit t) : s = t := by
 unfold keyLit at h
 injection h with h
 exact ByteArray.ext (Array.toList_inj.1 h)
theorem keyed : Keyed Tryz.prog 9 := string_keyed Tryz.underlying9
theorem key_of {s : ByteArray} (h : s.size ≤ maxLen) : keyOf Tryz.prog 9 (.string s) = some (keyLit s) := Go.WideMaps.keyOf_string_mk Tryz.underlying9 h
theorem keyLit_key (s : ByteArray) : WideAt.IsKeyLit (keyLit s) := trivial

/-- Block b is a map: what stands at each name, and how many names there are. -/
def Mp (w : World) (b : Nat) (M : ByteArray → Option Value) (c : Nat) : Prop :=
 ∃ D, w.ownsMap Tryz.prog 9 heldElem b c D ∧ Maps.size D = c ∧ ∀ s z, D.atKey (keyLit s) z = match M s with | none => z | some v => .held v

theorem Mp.has {D : DataW Value} {M : ByteArray → Option Value} (h : ∀ s z, D.atKey (keyLit s) z = match M s with | none => z | some v => .held v) (s : ByteArray) : Maps.has D (keyLit s) = (M s).isSome := by
 have h1 := h s
 cases hm : M s with
 | none =>
  rw [hm] at h1
  exact has_false_of_atKey h1
 | some v =>
  rw [hm] at h1
  exact has_true_of_atKey h1
theorem Mp.lt {w : World} {b c : Nat} {M : ByteArray → Option Value} (h : Mp w b M c) : b < w.heap.size := by
 obtain ⟨D, h1, _⟩ := h
 exact h1.lt
theorem Mp.kept {w w' : World} {b c : Nat} {M : ByteArray → Option Value} {row : Option Nat} (h : Mp w b M c) (hg : w.grownBy w' row) (hne : row ≠ some b) : Mp w' b M c := by
 obtain ⟨D, h1, h2, h3⟩ := h
 exact ⟨D, h1.kept hg (fun e => hne e.symm), h2, h3⟩
theorem Mp.below {w w' : World} {b c : Nat} {M : ByteArray → Option Value} (h : Mp w b M c) (hb : Below w.heap.size w w') : Mp w' b M c :=
 h.kept (row := none) ⟨hb.os, hb.tape, hb.output, hb.size, fun i hi _ => hb.block i hi⟩ (by simp)
theorem Mp.made (w : World) : Mp (w.alloc (.map #[] 0)) w.heap.size (fun _ => none) 0 :=
 ⟨.map [], World.ownsMap_made w _ _ _, rfl, fun _ _ => rfl⟩

/-- A map with one more, or another one, at a name. -/
def upd (M : ByteArray → Option Value) (s : ByteArray) (o : Option Value) : ByteArray → Option Value := fun t => if t = s then o else M t

theorem own_size {w : World} {b n : Nat} {D : DataW Value} (h : w.ownsMap Tryz.prog 9 heldElem b n D) : w.ownsMap Tryz.prog 9 heldElem b (Maps.size D) D := by
 obtain ⟨es, clock, hb, F, _, rfl⟩ := h
 exact ⟨es, clock, hb, F, by simp [Maps.size, length_sorted], rfl⟩

section
variable {w : World} {ops : Array Oper} {rest : List Oper} {o : Oper} {a : Act} {Q : Exit → Act → World → Prop}

/-- 'v := m[k]'. -/
theorem wp_mp_at (hg : o.guard = none) (m x : Operand) (t e : TypeId) (hop : o.op = Op.lookup t m x false) (ht : Tryz.prog.underlying t = some (.map 9 e)) {z : Value} (hz : (zeroValue e).run Tryz.prog w = .ok z w)
  (b c : Nat) (M : ByteArray → Option Value) (hM : Mp w b M c) (hm : a.eval m = .map (some b)) (s : ByteArray) (hx : a.eval x = .string s) (hs : s.size ≤ maxLen)
  (hK : wpList Tryz.prog ops Q rest (a.put o.dst ((M s).getD z)) w) : wpList Tryz.prog ops Q (o :: rest) a w := by
 obtain ⟨D, h1, h2, h3⟩ := hM
 obtain ⟨v, ps, hrun, hv⟩ := h1.lookup keyed ht hz (zd := .held z) (zp := []) rfl (key_of hs)
 have hd := heldElem_inv hv
 rw [h3] at hd
 have e1 : v = (M s).getD z := by
  cases hms : M s with
  | none => rw [hms] at hd; injection hd with hd; exact hd.symm
  | some u => rw [hms] at hd; injection hd with hd; exact hd.symm
 subst e1
 refine wpList_plain hg fun K' hK' => ?_
 unfold Oper.wp
 simp [execOp, hop, hm, hx, hrun, Result.andThen]
 exact hK' _ _ hK
/-- 'm[k] = v'. -/
theorem wp_mp_put (hg : o.guard = none) (m x v : Operand) (t e : TypeId) (hop : o.op = Op.mapUpdate t m x v) (ht : Tryz.prog.underlying t = some (.map 9 e))
  (b c : Nat) (M : ByteArray → Option Value) (hM : Mp w b M c) (hc : c < maxLen) (hm : a.eval m = .map (some b)) (s : ByteArray) (hx : a.eval x = .string s) (hs : s.size ≤ maxLen) (u : Value) (hv : a.eval v = u)
  (hK : ∀ w', Mp w' b (upd M s (some u)) (if M s = none then c + 1 else c) → w.grownBy w' (some b) → wpList Tryz.prog ops Q rest (a.put o.dst undef) w') : wpList Tryz.prog ops Q (o :: rest) a w := by
 obtain ⟨D, h1, h2, h3⟩ := hM
 refine wpList_mapUpdate_own w hg m x v t hop 9 e keyed ht heldElem b c D hm h1 hc (.string s) u (keyLit s) hx hv (key_of hs) (.held u) [] rfl (fun w' ho hgr => ?_)
 have hsz : Maps.size (D.put (keyLit s) (.held u)) = if M s = none then c + 1 else c := by
  rw [size_put (h1.tidy keyed), Mp.has h3, h2]
  cases hms : M s <;> simp
 refine hK w' ⟨_, ?_, hsz, fun t' z => ?_⟩ hgr
 ·have := own_size ho
  rw [hsz] at this
  exact this
 ·unfold upd
  by_cases ht' : t' = s
  ·subst ht'
   rw [if_pos rfl, atKey_put_same h1.isMap (keyLit_key _)]
  ·rw [if_neg ht', atKey_put_other (fun e => ht' (keyLit_inj e)), h3]
end
end Go.Proofs.YtfpbgfmnjpamlaaGreat

/- holders: by which token each key is held, as a map. -/
namespace Go.Proofs.YtfpbgfmnjpamlaaGreat
open Go.RowKit LeaseMath Go.Maps
set_option maxRecDepth 100000
set_option linter.unusedSimpArgs false
set_option linter.unusedVariables false

@[go_sem high] theorem make_hint (w : World) (n : Int) : (Instr.makeMap 57 (some (.int .i64 n))).run Tryz.prog w = .ok (.map (some w.heap.size)) (w.alloc (.map #[] 0)) := by
 simp [Instr.makeMap, run_underlying Tryz.underlying57, asInt, asIntOf, Result.andThen]
/-- A key's token, as a map has it. -/
def hM (l : List Hd) (s : ByteArray) : Option Value := (findM l s.data.toList).map fun h => .int .u64 (h.2.1 : Int)
theorem hM_at (l : List Hd) (k : K) : (hM l (bk k)).getD (.int .u64 0) = .int .u64 (heldN l k : Int) := by
 unfold hM heldN
 rw [bk_data]
 cases findM l k <;> rfl
theorem find_snoc {β : Type} {l : List (K × β)} {x : K × β} {k : K} (h : findM l x.1 = none) : findM (l ++ [x]) k = if k = x.1 then some x else findM l k := by
 unfold findM at *
 rw [List.find?_append]
 by_cases hk : k = x.1
 ·subst hk
  rw [h, if_pos rfl]
  simp
 ·rw [if_neg hk]
  have : ¬ x.1 = k := fun e => hk e.symm
  simp [List.find?_cons, this]
theorem find_ahead {β : Type} {l : List (K × β)} (h : l.Pairwise (fun a b => a.1 < b.1)) {i : Nat} {x : K × β} (hx : l[i]? = some x) : findM (l.take i) x.1 = none := by
 apply find_none
 intro s hs
 obtain ⟨j, hj, rfl⟩ := List.mem_iff_getElem.1 hs
 rw [List.length_take] at hj
 obtain ⟨hi, rfl⟩ := List.getElem?_eq_some_iff.1 hx
 have := (List.pairwise_iff_getElem.1 h) j i (by omega) hi (by omega)
 rw [List.getElem_take]
 intro e
 rw [e] at this
 grind
theorem hM_step {l : List Hd} (h : l.Pairwise (fun a b => a.1 < b.1)) {i : Nat} {x : Hd} (hx : l[i]? = some x) : upd (hM (l.take i)) (bk x.1) (some (.int .u64 (x.2.1 : Int))) = hM (l.take (i + 1)) ∧ hM (l.take i) (bk x.1) = none := by
 have h1 := find_ahead h hx
 constructor
 ·funext s
  unfold upd hM
  rw [take_succ_get hx, find_snoc h1]
  by_cases hs : s = bk x.1
  ·subst hs
   rw [if_pos rfl, bk_data, if_pos rfl]
   rfl
  ·rw [if_neg hs, if_neg (fun e => hs (by rw [← e]; cases s; simp [bk]))]
 ·unfold hM
  rw [bk_data, h1]
  rfl
set_option maxHeartbeats 2000000 in
theorem holders_of (zs : List Hd) (lv : Value) (w : World) (hL : Rd holdE w lv zs) (hm : mayB holdB zs = true) : Calls Tryz.prog 103 #[lv] w fun e w' => (∃ b, e = .returned (.map (some b)) ∧ w.heap.size ≤ b ∧ Mp w' b (hM zs) zs.length) ∧ Below w.heap.size w w' := by
 have HL : Hid (Rd holdE w lv zs) := hL
 obtain ⟨hlen, hall, hpw⟩ := may_iff.1 hm
 have HS : Hid (∀ (i : Nat) (x : Hd), zs[i]? = some x → x.1.length ≤ 64 ∧ upd (hM (zs.take i)) (bk x.1) (some (.int .u64 (x.2.1 : Int))) = hM (zs.take (i + 1)) ∧ hM (zs.take i) (bk x.1) = none) := fun i x hx => ⟨(hold_iff.1 (hall x (List.mem_of_getElem? hx))).1, hM_step hpw hx⟩
 obtain ⟨ao, cap, rfl, -, -⟩ := hL.shape
 clear hL hall hpw hm
 have hmade : Hid (Mp (w.alloc (.map #[] 0)) w.heap.size (hM (zs.take 0)) 0) := Mp.made w
 have hb0 : Below w.heap.size w (w.alloc (.map #[] 0)) := (Below.refl _ _).alloc (Nat.le_refl _) _
 go_enter Tryz.func103, Tryz.ntmps103
 go_wp2
 generalize w.alloc (.map #[] 0) = w0 at *
 go_loopg [11] zs.length (fun g s11 wr => ∃ i : Nat, i + g = zs.length ∧ s11 = .int .i64 (i : Int) ∧ Below w.heap.size w wr ∧ Hid (Mp wr w.heap.size (hM (zs.take i)) i))
 case atStart => exact ⟨0, by simp, rfl, hb0, hmade⟩
 case round =>
  obtain ⟨i, hig, rfl, hb, HM⟩ := hrel
  clear hmade hb0
  by_cases hlt : i < zs.length
  ·have hlti : (i : Int) < (zs.length : Int) := by omega
   have hx : zs[i]? = some zs[i] := List.getElem?_eq_getElem hlt
   obtain ⟨z, hzz⟩ : ∃ z, z = zs[i] := ⟨_, rfl⟩
   rw [← hzz] at hx
   clear hzz
   obtain ⟨b, off, rfl, cc⟩ := rdh_at HL.out hx
   obtain ⟨c0, c1, c2⟩ := cc wr hb
   obtain ⟨h1, h2, h3⟩ := HS.out i z hx
   have H2 : Hid (upd (hM (zs.take i)) (bk z.1) (some (.int .u64 (z.2.1 : Int))) = hM (zs.take (i + 1))) := h2
   obtain ⟨hs, hbz, cl⟩ := hd_box wr z
   obtain ⟨d0, d1, d2⟩ := cl _ (Below.refl _ _)
   have hb1 := keep_step hb (Nat.le_refl _) hbz
   have HM1 : Hid (Mp (wr.alloc (hc z)) w.heap.size (hM (zs.take i)) i) := HM.out.below hbz
   have hsz : (bk z.1).size ≤ maxLen := by rw [bk_size]; unfold maxLen; omega
   have hmx : i < maxLen := by unfold maxLen; omega
   obtain ⟨k, t, u⟩ := z
   dsimp only [hc] at *
   clear hx cc cl h2 HM hbz h1
   go_wp2_with (refine wp_mp_put rfl _ _ _ _ _ rfl Tryz.underlying57 _ _ _ HM1.out hmx rfl (bk k) rfl hsz (.int .u64 (t : Int)) rfl ?_)
   intro w6 hp6 hg6
   rw [H2.out] at hp6
   have HP : Hid (Mp w6 w.heap.size (hM (zs.take (i + 1))) (i + 1)) := hp6
   have hb6 := hb1.trans (grown_below hg6 (Nat.le_trans hb.size (by rw [hs]; exact Nat.le_succ _)) (fun k hk => by cases hk; exact Nat.le_refl _))
   clear hp6 hg6 hb1 HM1 d0 d1 d2 c0 c1 c2 H2 h3
   go_wp2
   go_roundg (gk - 1)
   case measure => omega
   case rel => exact ⟨i + 1, by omega, by go_num, hb6, HP⟩
  ·have hlti : ¬ (i : Int) < (zs.length : Int) := by omega
   have HF : Hid (Mp wr w.heap.size (hM zs) zs.length) := by
    have := HM.out
    rw [List.take_of_length_le (by omega), show i = zs.length by omega] at this
    exact this
   clear HM HL HS
   go_wp2
   go_ret
   exact ⟨⟨_, rfl, Nat.le_refl _, HF.out⟩, hb⟩
end Go.Proofs.YtfpbgfmnjpamlaaGreat

