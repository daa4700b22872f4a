import Derived.Test.YtebkfkijlopmoaaHs20
/- The contract of the document's ReadBytes. -/
namespace Go.Proofs.Ytebkfkijlopmoaa.Wi
open Go.RowKit WireMath
set_option maxRecDepth 100000
set_option linter.unusedSimpArgs false

theorem Bs.cut {n : Nat} {w : World} {l : List Nat} {ad : Addr} {cap a k : Nat} (h : Bs n w (.slice (some ad) l.length cap) l) (ha : a + k ≤ l.length) :
    (cap = a → Bs n w (.slice (some ad) k 0) ((l.drop a).take k)) ∧ (¬ cap = a → Bs n w (.slice (some (ad.add a)) k (cap - a)) ((l.drop a).take k)) := by
  have hc : l.length ≤ cap := by obtain ⟨_, _, e, h2, _⟩ := h; cases e; exact h2
  have hd := Bs.dropped h (a := a) (by omega)
  have hl : (l.drop a).length = l.length - a := List.length_drop
  constructor
  · intro e
    have hk : k = 0 := by omega
    subst hk
    rw [List.take_zero]
    exact ⟨_, _, rfl, Nat.le_refl _, Nat.zero_le _, fun _ => rfl, fun h => absurd rfl h⟩
  · intro e
    have h1 := hd.2 e
    exact Bs.took h1 (by omega)

theorem Own.kept {n₀ q : Nat} {w w' : World} {v : Value} {l : List Nat} (h : Own n₀ w v l) (hk : Kp q w w') (hne : ∀ k, v.ownBlock = some k → k ≠ q) : Own n₀ w' v l := by
  obtain ⟨h0, h1 | ⟨g, cap, cur, e1, hg, hbk, r⟩⟩ := h
  · exact ⟨h0, .inl h1⟩
  · subst e1
    exact ⟨h0, .inr ⟨g, cap, cur, rfl, hg, (hk.block g (Array.getElem?_eq_some_iff.1 hbk).1 (fun e => hne g rfl (Option.some.inj e))).trans hbk, r⟩⟩
set_option maxHeartbeats 4000000 in
theorem rbytes_of (n₀ r : Nat) (l : List Nat) (a b : Nat) (m : Int) (w : World) (h : Rr n₀ w r l a b) (hl : ∀ c ∈ l, c < 256) (hm2 : m ≤ 9223372036854775807) (hlen : l.length ≤ 140737488355328) :
    Calls Try.prog 37 #[.pointer (some ⟨r, 0, none⟩), .int .i64 m] w fun e w' => ∃ v, e = .returned v ∧ Own w.heap.size w' v (byL l a b m) ∧ Rr n₀ w' r l (byA l a b m) (byE l a b m) ∧ Kp r w w' := by
  obtain ⟨c1, -, -, hal⟩ := h.cells
  have hu := rnum_of n₀ r l a b m w h hl hm2
  have zero : ∀ c, c ≠ 0 → Calls Try.prog 35 #[.pointer (some ⟨r, 0, none⟩), .int .i64 m] w (fun e w' => e = .returned (.int .i64 0) ∧ Rr n₀ w' r l a c ∧ Kp r w w') →
      Calls Try.prog 37 #[.pointer (some ⟨r, 0, none⟩), .int .i64 m] w fun e w' => ∃ v, e = .returned v ∧ Own w.heap.size w' v [] ∧ Rr n₀ w' r l a c ∧ Kp r w w' := by
    intro c hc hp
    have hb2 : ¬ (c : Int) = 0 := by omega
    have hb3 : ((c : Int) != 0) = true := by simp; omega
    clear hu
    go_enter Try.func37, Try.ntmps37
    go_wp2_with fail
    refine hp.mono ?_
    rintro e w1 ⟨rfl, h1, k1⟩
    obtain ⟨d1, d2, -, -⟩ := h1.cells
    go_wp2
    go_ret
    exact ⟨_, rfl, Own.nil _ _, h1, k1⟩
  cases hrd : rd 10 0 0 (src l a b) with
  | none =>
    obtain ⟨e1, e2, e3⟩ := by_none m hrd
    obtain ⟨f1, f2, f3⟩ := nu_none m hrd
    rw [e1, e2, e3]
    rw [f1, f2, f3] at hu
    exact zero _ (wb_ne b 5 (by decide)) hu
  | some x =>
    obtain ⟨n, k⟩ := x
    obtain ⟨hn, hk0, hk10, hkl⟩ := rd_facts (src_bytes hl) hrd
    obtain ⟨rfl, hal2⟩ := src_len hkl hk0
    by_cases hm : (n : Int) ≤ m
    · obtain ⟨f1, f2, f3⟩ := nu_some hrd hm
      rw [f1, f2, f3] at hu
      have hsl : (src l a 0).length = l.length - a := by simp [src]
      have hn63 : (n : Int) ≤ 9223372036854775807 := by omega
      have hml : (l.length : Int) ≤ 9223372036854775807 := by omega
      have q1 : IntKind.i64.wrap ((l.length : Int) - ((a : Int) + (k : Int))) = (l.length : Int) - ((a : Int) + (k : Int)) := IntWalk.i64_in _ (by omega)
      by_cases hfew : k + n ≤ (src l a 0).length
      · obtain ⟨e1, e2, e3⟩ := by_some hrd hm hfew
        rw [e1, e2, e3]
        have hsrc : ((src l a 0).drop k).take n = (l.drop (a + k)).take n := by simp [src, List.drop_drop]
        rw [hsrc]
        clear zero hrd e1 e2 e3 f1 f2 f3 hsrc
        have hfit : (n : Int) ≤ (l.length : Int) - ((a : Int) + (k : Int)) := by omega
        have hfit2 : a + k + n ≤ l.length := by omega
        have q2 : IntKind.i64.wrap ((a : Int) + (k : Int) + (n : Int)) = (a : Int) + (k : Int) + (n : Int) := IntWalk.i64_in _ (by omega)
        go_enter Try.func37, Try.ntmps37
        go_wp2_with fail
        refine hu.mono ?_
        rintro e w1 ⟨rfl, h1, k1⟩
        obtain ⟨d1, d2, f1, -⟩ := h1.cells
        have h1' := h1
        obtain ⟨sv, g1, g2, g3, g4⟩ := h1'
        obtain ⟨ao, cap, rfl, i2, i3, i4, i5⟩ := id g2
        obtain ⟨bb, off, rfl, _, _⟩ := i5 (by rintro rfl; simp at hal2; omega)
        have d0 : w1.cell? ⟨r, 0, none⟩ = some (.slice (some ⟨bb, off, none⟩) l.length cap) := by rw [cells_of_block g1]; rfl
        clear hu hm i4 i5
        go_wp2
        go_quiet (fail)
        have h2 := h1.drewN nq
        have k2 : Kp r w (w1.drewN nq) := k1.trans (Kp.of_below (below_drewN (Below.refl _ _) _))
        have g2' := g2.below (below_drewN (Below.refl n₀ w1) nq)
        have d0' : (w1.drewN nq).cell? ⟨r, 0, none⟩ = some (.slice (some ⟨bb, off, none⟩) l.length cap) := d0
        have d1' : (w1.drewN nq).cell? ⟨r, 1, none⟩ = some (.int .i64 ((a : Int) + (k : Int))) := d1
        clear d0 d1 d2 f1 h1 k1 g1 g2
        generalize w1.drewN nq = w2 at h2 k2 d0' d1' g2' ⊢
        have hr2 := h2.lt
        have hn0 : n₀ ≤ w2.heap.size := by omega
        have hcut := Bs.cut (a := a + k) (k := n) g2' hfit2
        have hBl : ∀ w3, Below w2.heap.size w2 w3 → w3.cell? ⟨r, 0, none⟩ = some (.slice (some ⟨bb, off, none⟩) l.length cap) ∧ w3.cell? ⟨r, 1, none⟩ = some (.int .i64 ((a : Int) + (k : Int))) := fun w3 hb3 => ⟨(hb3.cell (p := ⟨r, 0, none⟩) hr2).trans d0', (hb3.cell (p := ⟨r, 1, none⟩) hr2).trans d1'⟩
        have hl0 : ([] : List Nat).length + ((l.drop (a + k)).take n).length ≤ 140737488355328 := by simp [List.length_take, List.length_drop]; omega
        have hd0 : (0 : Int) ≤ (a : Int) + (k : Int) := by omega
        have hd1 : (a : Int) + (k : Int) ≤ (a : Int) + (k : Int) + (n : Int) := by omega
        have hd2 : (a : Int) + (k : Int) + (n : Int) ≤ (cap : Int) := by omega
        have hmc : (cap : Int) ≤ 9223372036854775807 := by unfold maxLen at i3; omega
        have t1 : ((a : Int) + (k : Int)).toNat = a + k := by omega
        have t2 : ((a : Int) + (k : Int) + (n : Int)).toNat = a + k + n := by omega
        have q3 : ((a + (k + n) : Nat) : Int) = (a : Int) + (k : Int) + (n : Int) := by omega
        have fin : ∀ v3 w3, Own w2.drew.heap.size w3 v3 ([] ++ (l.drop (a + k)).take n) → Below w2.drew.heap.size w2.drew w3 →
            (w3.cell? ⟨r, 1, none⟩ = some (.int .i64 ((a : Int) + (k : Int))) ∧ w3.frozen? ⟨r, 1, none⟩ = false) ∧ Own w.heap.size (w3.setCell ⟨r, 1, none⟩ (.int .i64 ((a : Int) + (k : Int) + (n : Int)))) v3 ((l.drop (a + k)).take n) ∧ Rr n₀ (w3.setCell ⟨r, 1, none⟩ (.int .i64 ((a : Int) + (k : Int) + (n : Int)))) r l (a + (k + n)) 0 ∧ Kp r w (w3.setCell ⟨r, 1, none⟩ (.int .i64 ((a : Int) + (k : Int) + (n : Int)))) := by
          intro v3 w3 hO3 hb3
          have hb : Below w2.heap.size w2 w3 := (Below.refl _ w2).drew.trans hb3
          have h3 := h2.below hb
          obtain ⟨x1, -, x3, -⟩ := h3.cells
          have hs := h3.set_at (a + (k + n)) (by omega)
          rw [q3] at hs
          refine ⟨⟨x1, x3⟩, ?_, hs, (k2.trans (Kp.of_below hb)).trans (Kp.set r 1 _ _)⟩
          rw [List.nil_append] at hO3
          refine (hO3.mono k2.size).kept (Kp.set r 1 _ w3) (fun g hg e => ?_)
          have := (World.ownsRow.lt hO3 g hg).1
          subst e
          exact absurd hr2 (by simpa using this)
        go_wp2
        by_cases hck : cap = a + k
        · have hB3 := hcut.1 hck
          have hckH : Hid (cap = a + k) := hck
          clear hcut g2' hck
          go_region_held3 (fun w' => w'.cell? ⟨r, 0, none⟩ = some (.slice (some ⟨bb, off, none⟩) l.length cap) ∧ w'.cell? ⟨r, 1, none⟩ = some (.int .i64 ((a : Int) + (k : Int))))
            (first | go_keep | exact hBl _ ((Below.refl _ w2).drew.trans hb3))
            ((refine step_append_bs (by rfl) _ _ (by rfl) w2.drew.heap.size (.slice none 0 0) [] (by rfl) (Own.nil _ _) (Nat.le_refl _) n₀ (.slice (some ⟨bb, off, none⟩) n 0) _ (by have hck := hckH.out; simp [Act.eval, Act.put, t1, t2, hck]) (hB3.below (Below.refl n₀ w2).drew) hl0 ?_; intro v3 w3 hO3 hb3))
          obtain ⟨⟨x1, x2⟩, x3, x4, x5⟩ := fin v3 w3 hO3 hb3
          clear fin hBl hO3 hb3
          go_wp2
          go_ret
          exact ⟨_, rfl, x3, x4, x5⟩
        · have hB3 := hcut.2 hck
          rw [Addr.add_lit] at hB3
          have hck2 : ¬ (cap : Int) = (a : Int) + (k : Int) := by omega
          clear hcut g2'
          go_region_held3 (fun w' => w'.cell? ⟨r, 0, none⟩ = some (.slice (some ⟨bb, off, none⟩) l.length cap) ∧ w'.cell? ⟨r, 1, none⟩ = some (.int .i64 ((a : Int) + (k : Int))))
            (first | go_keep | exact hBl _ ((Below.refl _ w2).drew.trans hb3))
            ((refine step_append_bs (by rfl) _ _ (by rfl) w2.drew.heap.size (.slice none 0 0) [] (by rfl) (Own.nil _ _) (Nat.le_refl _) n₀ (.slice (some ⟨bb, off + (a + k), none⟩) n (cap - (a + k))) _ (by simp [Act.eval, Act.put, t1, t2, hck]) (hB3.below (Below.refl n₀ w2).drew) hl0 ?_; intro v3 w3 hO3 hb3))
          obtain ⟨⟨x1, x2⟩, x3, x4, x5⟩ := fin v3 w3 hO3 hb3
          clear fin hBl hO3 hb3
          go_wp2
          go_ret
          exact ⟨_, rfl, x3, x4, x5⟩
      · obtain ⟨e1, e2, e3⟩ := by_few hrd hm hfew
        rw [e1, e2, e3]
        clear zero hrd e1 e2 e3 f1 f2 f3
        have hfit : ¬ (n : Int) ≤ (l.length : Int) - ((a : Int) + (k : Int)) := by omega
        have hw : ∀ W, Rr n₀ W r l (a + k) 0 → Calls Try.prog 48 #[.pointer (some ⟨r, 0, none⟩), .int .i64 5, .int .i64 (a : Int)] W fun e w' => e = .returned (.tuple #[]) ∧ Rr n₀ w' r l a (wb 0 5) ∧ Kp r W w' := fun W hW => wrong_of n₀ r l (a + k) 0 5 a W hW hal
        go_enter Try.func37, Try.ntmps37
        go_wp2_with fail
        refine hu.mono ?_
        rintro e w1 ⟨rfl, h1, k1⟩
        obtain ⟨d1, d2, -, -⟩ := h1.cells
        have h1' := h1
        obtain ⟨sv, g1, g2, g3, g4⟩ := h1'
        obtain ⟨ao, cap, rfl, i2, i3, i4, i5⟩ := id g2
        have d0 : w1.cell? ⟨r, 0, none⟩ = some (.slice ao l.length cap) := by rw [cells_of_block g1]; rfl
        clear hu hm i4 i5
        go_wp2
        go_quiet (fail)
        have h2 := h1.drewN nq
        have k2 : Kp r w (w1.drewN nq) := k1.trans (Kp.of_below (below_drewN (Below.refl _ _) _))
        generalize w1.drewN nq = w2 at h2 k2 ⊢
        go_wp2_with fail
        refine (hw _ h2).mono ?_
        rintro e w3 ⟨rfl, h3, k3⟩
        go_wp2
        go_ret
        exact ⟨_, rfl, Own.nil _ _, h3, k2.trans k3⟩
    · obtain ⟨e1, e2, e3⟩ := by_long hrd hm
      obtain ⟨f1, f2, f3⟩ := nu_long hrd hm
      rw [e1, e2, e3]
      rw [f1, f2, f3] at hu
      exact zero _ (wb_ne 0 3 (by decide)) hu
end Go.Proofs.Ytebkfkijlopmoaa.Wi

