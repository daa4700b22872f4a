import Derived.Test.YtglbjimpaoikfaaHd29
import Derived.Test.YtglbjimpaoikfaaHd27
/- without of txn; the document's But. -/
namespace Go.Proofs.Ytglbjimpaoikfaa
open Go.RowKit LeaseMath
set_option maxRecDepth 100000
set_option linter.unusedSimpArgs false
set_option linter.unusedVariables false

/-- Those that are not in a list. -/
def lack (o v : List Int) : List Int := v.filter fun n => decide (n ∉ o)
theorem lack_in {o v : List Int} {i : Nat} {x : Int} (h : v[i]? = some x) (hx : x ∈ o) : lack o (v.take (i + 1)) = lack o (v.take i) := by
  unfold lack
  rw [List.take_add_one, h, List.filter_append]
  simp [hx]
theorem lack_out {o v : List Int} {i : Nat} {x : Int} (h : v[i]? = some x) (hx : x ∉ o) : lack o (v.take (i + 1)) = lack o (v.take i) ++ [x] := by
  unfold lack
  rw [List.take_add_one, h, List.filter_append]
  simp [hx]
theorem lack_len (o v : List Int) : (lack o v).length ≤ v.length := List.length_filter_le _ _
set_option maxHeartbeats 1000000 in
theorem without_of (o v : List Int) (ov vv : Value) (w : World) (hO : Rd intE w ov o) (hV : Rd intE w vv v) (hlo : o.length ≤ 1000000) (hlv : v.length ≤ 1000000) : Calls Try.prog 39 #[vv, ov] w fun e w' => ∃ u, e = .returned u ∧ Ow intE 3 w.heap.size w' u (lack o v) ∧ Below w.heap.size w w' := by
  have kc := fun x W (hW : Below w.heap.size w W) => contains_of o ov x W (hO.below hW) (by omega)
  have HV : Hid (Rd intE w vv v) := hV
  obtain ⟨oa, oc, rfl, -, -⟩ := hO.shape
  obtain ⟨va, vc, rfl, -, -⟩ := hV.shape
  clear hO hV
  go_enter Try.func39, Try.ntmps39
  go_wp2
  go_loopg [5, 10] v.length (fun g s5 s10 wr => ∃ (i : Nat) (st : Value), i + g = v.length ∧ s10 = .int .i64 (i : Int) ∧ st = s5 ∧ Ow intE 3 w.heap.size wr st (lack o (v.take i)) ∧ Below w.heap.size w wr)
  case atStart => exact ⟨0, _, by simp, rfl, rfl, by rw [List.take_zero]; exact Ow.nil _ _ _ _, Below.refl _ _⟩
  case round =>
    obtain ⟨i, st, hig, rfl, rfl, hO, hb⟩ := hrel
    by_cases hlt : i < v.length
    · have hlti : (i : Int) < (v.length : Int) := by omega
      have hx : v[i]? = some v[i] := List.getElem?_eq_getElem hlt
      obtain ⟨y, hxx⟩ : ∃ x, x = v[i] := ⟨_, rfl⟩
      rw [← hxx] at hx
      clear hxx
      obtain ⟨b, off, rfl, cc⟩ := rdi_at HV.out hx
      have c0 := cc wr hb
      have kc1 := kc y wr hb
      have hll := lack_len o (v.take i)
      rw [List.length_take] at hll
      by_cases hy : y ∈ o
      · rw [decide_eq_true hy] at kc1
        have HO : Hid (Ow intE 3 w.heap.size wr st (lack o (v.take (i + 1)))) := by show Ow _ _ _ _ _ _; rw [lack_in hx hy]; exact hO
        obtain ⟨sa, sc, rfl, -⟩ := hO.1.shape
        clear hO HV cc hx kc hy hll
        go_wp2_with fail
        refine kc1.mono ?_
        rintro e w1 ⟨rfl, hw1⟩
        subst hw1
        clear kc1
        go_wp2
        go_roundg (gk - 1)
        case measure => omega
        case rel => exact ⟨i + 1, _, by omega, by go_num, rfl, HO.out, hb⟩
      · rw [decide_eq_false hy] at kc1
        have hrun : Hid _ := push_int y hO.1 (by omega)
        have HP : Hid (∀ v' w', PushT intE 3 wr st (lack o (v.take i) ++ [y]) v' w' → Ow intE 3 w.heap.size w' v' (lack o (v.take (i + 1))) ∧ Below w.heap.size wr w') := fun v' w' h => by
          rw [lack_out hx hy]
          exact hO.push hb.size h
        obtain ⟨sa, sc, rfl, -⟩ := hO.1.shape
        generalize lack o (v.take i) = L at *
        clear hO HV cc hx kc hy hll
        go_wp2_with fail
        refine kc1.mono ?_
        rintro e w1 ⟨rfl, hw1⟩
        subst hw1
        clear kc1
        go_wp2_with (at_builtin; refine wp_by rfl _ _ _ rfl _ _ rfl rfl hrun.out ?_)
        intro u w2 hp
        obtain ⟨h1, h2⟩ := HP.out u w2 hp
        obtain ⟨ua, uc, rfl, -⟩ := h1.1.shape
        have hb2 := hb.trans h2
        clear hrun HP hp h2
        go_wp2
        go_roundg (gk - 1)
        case measure => omega
        case rel => exact ⟨i + 1, _, by omega, by go_num, rfl, h1, hb2⟩
    · have hlti : ¬ (i : Int) < (v.length : Int) := by omega
      obtain rfl : i = v.length := by omega
      rw [List.take_length] at hO
      obtain ⟨sa, sc, rfl, -⟩ := hO.1.shape
      have HO : Hid _ := hO
      clear hO HV kc
      go_wp2
      go_ret
      exact ⟨_, rfl, HO.out, hb⟩
end Go.Proofs.Ytglbjimpaoikfaa

/- Ask, Tell of txn, and the document's. -/
namespace Go.Proofs.Ytglbjimpaoikfaa
open Go.RowKit LeaseMath
set_option maxRecDepth 100000
set_option linter.unusedSimpArgs false
set_option linter.unusedVariables false

def tellM (x : Tx) : List Int := if okX x = true ∧ (x.state = 2 ∨ x.state = 3) then lack x.done x.groups else []
theorem okX_state {x : Tx} (h : okX x = true) : x.state = 1 ∨ x.state = 2 ∨ x.state = 3 ∨ x.state = 4 := by
  unfold okX at h
  rw [Bool.and_eq_true] at h
  have h2 := h.2
  unfold stateB at h2
  by_cases h1 : x.state = 1
  · exact .inl h1
  by_cases h2' : x.state = 2
  · exact .inr (.inl h2')
  by_cases h3 : x.state = 3
  · exact .inr (.inr (.inl h3))
  by_cases h4 : x.state = 4
  · exact .inr (.inr (.inr h4))
  rw [if_neg h1, if_neg h2', if_neg h3, if_neg h4] at h2
  cases h2
set_option maxHeartbeats 4000000 in
theorem tell_of (z : Xz) (w : World) (hR : XR w z) (gk : z.t.keys.length ≤ 1000000) (g1 : z.t.groups.length ≤ 1000000) (g2 : z.t.yes.length ≤ 1000000) (g3 : z.t.done.length ≤ 1000000) : Calls Try.prog 17 #[xv z] w fun e w' => ∃ v, e = .returned v ∧ Ow intE 3 w.heap.size w' v (tellM z.t) ∧ Below w.heap.size w w' := by
  obtain ⟨L, HL⟩ : ∃ L, Hid (L = tellM z.t) := ⟨_, rfl⟩
  rw [← HL.out]
  obtain ⟨hs, hb, cl⟩ := x_boxC w z
  have BW : ∀ W, Below (w.heap.size + 1) (w.alloc (xc z)) W → Below w.heap.size w W := fun W hW => hb.trans (hW.mono (Nat.le_succ _))
  have hsz : Hid (w.heap.size + 1 ≤ (w.alloc (xc z)).heap.size) := by show _ ≤ _; omega
  have hx0 : Below (w.heap.size + 1) (w.alloc (xc z)) (w.alloc (xc z)) := Below.refl _ _
  obtain ⟨c0, c1, c2, c3, c4, c5, c6, c7, c8, c9, c10⟩ := cells11 (cl _ hx0)
  have k1 : Hid (∀ W, Below (w.heap.size + 1) (w.alloc (xc z)) W → _) := fun W hW => xcheck_of z W (hR.below (BW W hW)) gk (by omega) (by omega) (by omega)
  have k2 : Hid (∀ W, Below (w.heap.size + 1) (w.alloc (xc z)) W → _) := fun W hW => without_of z.t.done z.t.groups _ _ W (hR.2.2.2.below (BW W hW)) (hR.2.1.below (BW W hW)) g3 g1
  have k3 : Hid (∀ W : World, _) := fun W => told_of z W
  have hok := @okX_state z.t
  unfold tellM at HL
  replace cl : Hid (∀ W, Below (w.heap.size + 1) (w.alloc (xc z)) W → W.heap[w.heap.size]? = some (xc z)) := cl
  generalize okX z.t = b at *
  obtain ⟨LL, HLL⟩ : ∃ LL, LL = lack z.t.done z.t.groups := ⟨_, rfl⟩
  rw [← HLL] at k2 HL
  clear HLL hR gk g1 g2 g3 hb hs
  obtain ⟨⟨⟨i1, i2⟩, kd, ks, tk, tt, gs, st, ys, ds, cd⟩, ⟨ka, kc⟩, ⟨ga, gc⟩, ⟨ya, yc⟩, ⟨da, dc⟩⟩ := z
  dsimp only [xv, xc] at *
  cases b with
  | false =>
    try simp only [Bool.false_eq_true, if_false] at k1
    have E : Hid (L = []) := by show _ = _; rw [HL.out]; rw [if_neg (by simp)]
    clear HL hok k2 k3
    go_enter Try.func17, Try.ntmps17
    go_wp2_with fail
    refine (k1.out _ hx0).mono ?_
    rintro e w1 ⟨rfl, hbc⟩
    have hx1 := keep_step hx0 hsz.out hbc
    obtain ⟨c0, c1, c2, c3, c4, c5, c6, c7, c8, c9, c10⟩ := cells11 (cl.out w1 hx1)
    clear hbc
    go_wp2
    go_ret
    exact ⟨_, rfl, by rw [E.out]; exact Ow.nil _ _ _ _, BW _ hx1⟩
  | true =>
    try simp only [if_true] at k1
    by_cases h1 : st = 2 ∨ st = 3
    · have ht : (decide (st = 2) || decide (st = 3)) = true := by simpa using h1
      rw [ht] at k3
      have E : Hid (L = LL) := by show _ = _; rw [HL.out]; rw [if_pos ⟨rfl, h1⟩]
      clear HL hok h1 ht
      go_enter Try.func17, Try.ntmps17
      go_wp2_with fail
      refine (k1.out _ hx0).mono ?_
      rintro e w1 ⟨rfl, hbc⟩
      have hx1 := keep_step hx0 hsz.out hbc
      obtain ⟨c0, c1, c2, c3, c4, c5, c6, c7, c8, c9, c10⟩ := cells11 (cl.out w1 hx1)
      clear hbc
      go_wp2_with fail
      refine (k3.out _).mono ?_
      rintro e w2 ⟨rfl, hbc⟩
      have hx2 := keep_step hx1 hsz.out hbc
      obtain ⟨c0, c1, c2, c3, c4, c5, c6, c7, c8, c9, c10⟩ := cells11 (cl.out w2 hx2)
      clear hbc
      go_wp2_with fail
      refine (k2.out _ hx2).mono ?_
      rintro e wv ⟨v, rfl, hO, hbc⟩
      have hxv := keep_step hx2 hsz.out hbc
      have hO' : Hid (Ow intE 3 w.heap.size wv v L) := by show Ow _ _ _ _ _ _; rw [E.out]; exact hO.mono (BW _ hx2).size
      obtain ⟨va, vc, rfl, -⟩ := hO.1.shape
      clear hO hbc
      go_wp2
      go_ret
      exact ⟨_, rfl, hO'.out, BW _ hxv⟩
    · have ht : (decide (st = 2) || decide (st = 3)) = false := by simpa using h1
      rw [ht] at k3
      have E : Hid (L = []) := by show _ = _; rw [HL.out]; rw [if_neg (fun h => h1 h.2)]
      clear HL hok k2 h1 ht
      go_enter Try.func17, Try.ntmps17
      go_wp2_with fail
      refine (k1.out _ hx0).mono ?_
      rintro e w1 ⟨rfl, hbc⟩
      have hx1 := keep_step hx0 hsz.out hbc
      obtain ⟨c0, c1, c2, c3, c4, c5, c6, c7, c8, c9, c10⟩ := cells11 (cl.out w1 hx1)
      clear hbc
      go_wp2_with fail
      refine (k3.out _).mono ?_
      rintro e w2 ⟨rfl, hbc⟩
      have hx2 := keep_step hx1 hsz.out hbc
      obtain ⟨c0, c1, c2, c3, c4, c5, c6, c7, c8, c9, c10⟩ := cells11 (cl.out w2 hx2)
      clear hbc
      go_wp2
      go_ret
      exact ⟨_, rfl, by rw [E.out]; exact Ow.nil _ _ _ _, BW _ hx2⟩
end Go.Proofs.Ytglbjimpaoikfaa

