import Derived.Test.YtldlimakcdaoaaaHd47
/- The contract of next: a reader's next range. -/
namespace Go.Proofs.Ytldlimakcdaoaaa
open Go.RowKit SpanMath ChartMath WireMath
set_option maxRecDepth 100000
set_option linter.unusedSimpArgs false
set_option linter.unusedVariables false

/-- Bytes do not lie in a reader's own block. -/
theorem Wi.Bs.kpD {n q : Nat} {w w' : World} {v : Value} {l s : List Nat} {a b : Nat} (h : Wi.Bs n w v s) (hr : Wi.Rd w q l a b) (hk : Wi.Kp q w w') : Wi.Bs n w' v s := by
  obtain ⟨ao, cap, rfl, h2, h3, h4, h5⟩ := h
  obtain ⟨sv, g1, g2, _⟩ := hr
  obtain ⟨ao2, cap2, rfl, _⟩ := g2
  refine ⟨ao, cap, rfl, h2, h3, h4, fun hne => ?_⟩
  obtain ⟨b, off, e1, e2, e3⟩ := h5 hne
  subst e1
  refine ⟨b, off, rfl, e2, fun j c hj => ?_⟩
  have hx := e3 j c hj
  have hbq : b ≠ q := fun hb => by
    subst hb
    rw [Wi.cells_of_block g1] at hx
    match h : off + j with
    | 0 => rw [h] at hx; simp at hx
    | 1 => rw [h] at hx; simp at hx
    | 2 => rw [h] at hx; simp at hx
    | k + 3 => rw [h] at hx; simp at hx
  have hlt := World.block_lt_of_cell? w _ hx
  dsimp only at hlt
  have hbl := hk.block b hlt (fun e => hbq (Option.some.inj e))
  unfold World.cell? at hx ⊢
  rw [hbl]
  exact hx
theorem kp_far {q Nr : Nat} {w w4 : World} (h : Wi.Kp q w w4) (hN : w.heap.size ≤ Nr) (i : Nat) (v : Value) : Wi.Kp q w (w4.setCell ⟨Nr, i, none⟩ v) := by
  refine ⟨h.os, h.tape, h.output, ?_, fun k hk hne => ?_⟩
  · have := h.size
    simp [World.setCell]
    exact this
  · have h9 := h.block k hk hne
    have hk' : Nr ≠ k := by omega
    rw [← h9]
    simp [World.setCell, Array.getElem?_modify, hk']
theorem results_rg {fn : Func} {p : Tmp} (h : fn.results = #[.cell p 42]) (tmps : Array Value) (w : World) (g : Nat) (a b c d : Value)
    (hp : tmps.getD p undef = .pointer (some ⟨g, 0, none⟩)) (hg : w.heap[g]? = some (.cells #[a, b, c, d] 42 (0, 0))) :
    (results fn tmps).run Try.prog w = .ok (.agg #[a, b, c, d]) w := by
  have hp' : tmps[p]?.getD undef = .pointer (some ⟨g, 0, none⟩) := by simpa using hp
  simp [results, h, hp', asAddr, run_loadVar_row w g 42 42 #[a, b, c, d] (0, 0) _ hg Try.underlying42 rfl (by kernel_rfl)]
theorem rg_set {w : World} {g : Nat} {a b c d : Value} {t : TypeId} (h : w.heap[g]? = some (.cells #[a, b, c, d] t (0, 0))) (x y z u : Value) : ((((w.setCell ⟨g, 0, none⟩ x).setCell ⟨g, 1, none⟩ y).setCell ⟨g, 2, none⟩ z).setCell ⟨g, 3, none⟩ u).heap[g]? = some (.cells #[x, y, z, u] t (0, 0)) := by
  simp [World.setCell, Array.getElem?_modify, h]

set_option maxHeartbeats 8000000 in
theorem next_of (q : Nat) (b : List Nat) (a e : Nat) (w : World) (h : Wi.Rd w q b a e) (hl : ∀ c ∈ b, c < 256) (hlen : b.length ≤ 140737488355328) :
    Calls Try.prog 51 #[.pointer (some ⟨q, 0, none⟩)] w fun e' w' => e' = .returned (rv (rgAt b a e)) ∧ Wi.Rd w' q b (rgA b a e) (rgX b a e) ∧ Wi.Kp q w w' := by
  obtain ⟨q1, q2, q3⟩ := one_box w (.cells #[.string { data := #[] }, .string { data := #[] }, .int .i64 0, .int .u64 0] 42)
  have hql := h.lt
  have kp0 : Wi.Kp q w (w.alloc (.cells #[.string { data := #[] }, .string { data := #[] }, .int .i64 0, .int .u64 0] 42)) := Wi.Kp.of_below q3
  have k1 := Wi.bytes_m q b a e 64 _ (h.below q3) hl (by decide) hlen
  have hl1 : ∀ c ∈ Wi.byL b a e 64, c < 256 := by_lt hl
  have HA : Hid (rgAt b a e = ((ku (Wi.byL b a e 64), ku (Wi.byL b (Wi.byA b a e 64) (Wi.byE b a e 64) 64)), (Wi.nuN b (Wi.byA b (Wi.byA b a e 64) (Wi.byE b a e 64) 64) (Wi.byE b (Wi.byA b a e 64) (Wi.byE b a e 64) 64) 16 : Int), (Wi.uvN b (Wi.nuA b (Wi.byA b (Wi.byA b a e 64) (Wi.byE b a e 64) 64) (Wi.byE b (Wi.byA b a e 64) (Wi.byE b a e 64) 64) 16) (Wi.nuE b (Wi.byA b (Wi.byA b a e 64) (Wi.byE b a e 64) 64) (Wi.byE b (Wi.byA b a e 64) (Wi.byE b a e 64) 64) 16) : Int))) := rfl
  have HB : Hid (rgA b a e = Wi.uvA b (Wi.nuA b (Wi.byA b (Wi.byA b a e 64) (Wi.byE b a e 64) 64) (Wi.byE b (Wi.byA b a e 64) (Wi.byE b a e 64) 64) 16) (Wi.nuE b (Wi.byA b (Wi.byA b a e 64) (Wi.byE b a e 64) 64) (Wi.byE b (Wi.byA b a e 64) (Wi.byE b a e 64) 64) 16)) := rfl
  have HX : Hid (rgX b a e = Wi.uvE b (Wi.nuA b (Wi.byA b (Wi.byA b a e 64) (Wi.byE b a e 64) 64) (Wi.byE b (Wi.byA b a e 64) (Wi.byE b a e 64) 64) 16) (Wi.nuE b (Wi.byA b (Wi.byA b a e 64) (Wi.byE b a e 64) 64) (Wi.byE b (Wi.byA b a e 64) (Wi.byE b a e 64) 64) 16)) := rfl
  rw [HA.out, HB.out, HX.out]
  clear HA HB HX
  generalize Wi.byA b a e 64 = a1 at *
  generalize Wi.byE b a e 64 = e1 at *
  generalize Wi.byL b a e 64 = s1 at *
  have hl2 : ∀ c ∈ Wi.byL b a1 e1 64, c < 256 := by_lt hl
  have kf := fun W (hW : Wi.Rd W q b a1 e1) => Wi.bytes_m q b a1 e1 64 W hW hl (by decide) hlen
  generalize Wi.byA b a1 e1 64 = a2 at *
  generalize Wi.byE b a1 e1 64 = e2 at *
  generalize Wi.byL b a1 e1 64 = s2 at *
  obtain ⟨K1, hK1⟩ : ∃ K1, K1 = ku s1 := ⟨_, rfl⟩
  obtain ⟨K2, hK2⟩ : ∃ K2, K2 = ku s2 := ⟨_, rfl⟩
  rw [← hK1, ← hK2]
  have hs1 : Wi.str s1 = bk K1 := by rw [hK1]; rfl
  have hs2 : Wi.str s2 = bk K2 := by rw [hK2]; rfl
  clear hK1 hK2
  obtain ⟨Nr, hNr⟩ : ∃ Nr, Nr = w.heap.size := ⟨_, rfl⟩
  have HNr : Hid (Nr = w.heap.size) := hNr
  have hNq : some Nr ≠ some q := fun h => by have := Option.some.inj h; omega
  rw [← hNr] at q2
  clear hNr q1 h
  go_enter Try.func51, Try.ntmps51
  go_wp2_with fail
  rw [← HNr.out]
  generalize w.alloc (.cells #[.string { data := #[] }, .string { data := #[] }, .int .i64 0, .int .u64 0] 42) = w0 at *
  refine k1.mono ?_
  rintro e' w1 ⟨v1, rfl, hB1, hR1, kp1⟩
  have bx1 := (kp1.block Nr (Array.getElem?_eq_some_iff.1 q2).1 (fun h => hNq h)).trans q2
  have k2 := kf w1 hR1
  clear k1 kf q3
  go_wp2_with fail
  refine k2.mono ?_
  rintro e' w2 ⟨v2, rfl, hB2, hR2, kp2⟩
  have bx2 := (kp2.block Nr (Array.getElem?_eq_some_iff.1 bx1).1 (fun h => hNq h)).trans bx1
  replace hB1 := Wi.Bs.kpD hB1 hR1 kp2
  have kpa := (kp0.trans kp1).trans kp2
  clear k2 hR1 kp1 kp2 bx1 q2 kp0
  obtain ⟨p1, n1, hv1, -⟩ := id hB1
  obtain ⟨p2, n2, hv2, -⟩ := id hB2
  have hBd1 : Wi.Bs w1.heap.size w2.drew v1 s1 := Wi.Bs.below hB1 (Below.refl _ _).drew
  have hBd2 : Wi.Bs w2.heap.size w2.drew v2 s2 := Wi.Bs.below hB2 (Below.refl _ _).drew
  have hRd : Wi.Rd w2.drew q b a2 e2 := hR2.below (Below.refl _ _).drew
  have bxd : w2.drew.heap[Nr]? = _ := bx2
  have kpd : Wi.Kp q w w2.drew := kpa.trans (Wi.Kp.of_below (Below.refl _ _).drew)
  clear hB1 hB2 hR2 bx2 kpa hv1 hv2
  have hB1 := hBd1
  have hB2 := hBd2
  clear hBd1 hBd2
  go_wp2_with fail
  refine wp_region_L (fun W => (convert 58 9 v1).run Try.prog W = .ok (.string (bk K1)) W ∧ (convert 58 9 v2).run Try.prog W = .ok (.string (bk K2)) W) [10] (by kernel_rfl) ?_
  generalize w2.drew = wd at *
  have kN := Wi.number_m q b a2 e2 16 wd hRd hl (by decide)
  have yS : (fun W => (convert 58 9 v1).run Try.prog W = .ok (.string (bk K1)) W ∧ (convert 58 9 v2).run Try.prog W = .ok (.string (bk K2)) W) wd := ⟨by rw [← hs1]; exact Wi.str_of hB1 hl1, by rw [← hs2]; exact Wi.str_of hB2 hl2⟩
  refine wpAnyL_take 0 rfl (by kernel_rfl) (by kernel_rfl) (by kernel_rfl) (by kernel_rfl) (fun _ _ _ h => h) (by kernel_rfl) (by intro w' hS'; obtain ⟨a0, a1⟩ := hS'; go_simp <;> rfl) yS ?_
  try simp only [List.getElem_toArray, List.getElem_cons_succ, List.getElem_cons_zero, Act.put, List.setIfInBounds_toArray, List.set_cons_zero, List.set_cons_succ]
  refine wpAnyL_take 1 rfl (by kernel_rfl) (by kernel_rfl) (by kernel_rfl) (by kernel_rfl) (fun _ _ _ h => h) (by kernel_rfl) (by intro w' hS'; obtain ⟨a0, a1⟩ := hS'; go_simp <;> rfl) yS ?_
  try simp only [List.getElem_toArray, List.getElem_cons_succ, List.getElem_cons_zero, Act.put, List.setIfInBounds_toArray, List.set_cons_zero, List.set_cons_succ]
  refine wpAnyL_take 2 rfl (by kernel_rfl) (by kernel_rfl) (by kernel_rfl) (by kernel_rfl) (fun _ _ _ h => h) (by kernel_rfl) (by intro w' hS'; obtain ⟨a0, a1⟩ := hS'; go_simp <;> rfl) yS ?_
  try simp only [List.getElem_toArray, List.getElem_cons_succ, List.getElem_cons_zero, Act.put, List.setIfInBounds_toArray, List.set_cons_zero, List.set_cons_succ]
  refine wpAnyL_take 3 rfl (by kernel_rfl) (by kernel_rfl) (by kernel_rfl) (by kernel_rfl) (fun _ _ _ h => h) (by kernel_rfl) (by intro w' hS'; obtain ⟨a0, a1⟩ := hS'; go_simp <;> rfl) yS ?_
  try simp only [List.getElem_toArray, List.getElem_cons_succ, List.getElem_cons_zero, Act.put, List.setIfInBounds_toArray, List.set_cons_zero, List.set_cons_succ]
  refine wpAnyL_take 4 rfl (by kernel_rfl) (by kernel_rfl) (by kernel_rfl) (by kernel_rfl) (fun _ _ _ h => h) (by kernel_rfl) (by intro w' hS'; obtain ⟨a0, a1⟩ := hS'; go_simp <;> rfl) yS ?_
  try simp only [List.getElem_toArray, List.getElem_cons_succ, List.getElem_cons_zero, Act.put, List.setIfInBounds_toArray, List.set_cons_zero, List.set_cons_succ]
  refine wpAnyL_take 5 rfl (by kernel_rfl) (by kernel_rfl) (by kernel_rfl) (by kernel_rfl) (fun _ _ _ h => h) (by kernel_rfl) (by intro w' hS'; obtain ⟨a0, a1⟩ := hS'; go_simp <;> rfl) yS ?_
  try simp only [List.getElem_toArray, List.getElem_cons_succ, List.getElem_cons_zero, Act.put, List.setIfInBounds_toArray, List.set_cons_zero, List.set_cons_succ]
  refine wpAnyL_take 7 rfl (by kernel_rfl) (by kernel_rfl) (by kernel_rfl) (by kernel_rfl) (fun _ _ _ h => h) (by kernel_rfl) (by intro w' hS'; obtain ⟨a0, a1⟩ := hS'; go_simp <;> rfl) yS ?_
  try simp only [List.getElem_toArray, List.getElem_cons_succ, List.getElem_cons_zero, Act.put, List.setIfInBounds_toArray, List.set_cons_zero, List.set_cons_succ]
  refine wpAnyL_one 6 (by kernel_rfl) rfl (by kernel_rfl) ?_
  intro K' hK'
  go_simp
  go_at_call 50
  refine kN.mono ?_
  rintro e w3 ⟨rfl, hR3, kp3⟩
  have bx3 := (kp3.block Nr (Array.getElem?_eq_some_iff.1 bxd).1 hNq).trans bxd
  have yS3 : (fun W => (convert 58 9 v1).run Try.prog W = .ok (.string (bk K1)) W ∧ (convert 58 9 v2).run Try.prog W = .ok (.string (bk K2)) W) w3 := ⟨by rw [← hs1]; exact Wi.str_of (Wi.Bs.kpD hB1 hRd kp3) hl1, by rw [← hs2]; exact Wi.str_of (Wi.Bs.kpD hB2 hRd kp3) hl2⟩
  have kU := Wi.uvarint_m q b _ _ w3 hR3 hl
  have hB1x := Wi.Bs.kpD hB1 hRd kp3
  have hB2x := Wi.Bs.kpD hB2 hRd kp3
  refine hK'.out _ _ (.inr yS3) ?_
  clear hK' K'
  try simp only [List.getElem_toArray, List.getElem_cons_succ, List.getElem_cons_zero, Act.put, List.setIfInBounds_toArray, List.set_cons_zero, List.set_cons_succ]
  refine wpAnyL_one 8 (by kernel_rfl) rfl (by kernel_rfl) ?_
  intro K' hK'
  go_simp
  go_at_call 73
  refine kU.mono ?_
  rintro e w4 ⟨rfl, hR4, kp4⟩
  have bx4 := (kp4.block Nr (Array.getElem?_eq_some_iff.1 bx3).1 hNq).trans bx3
  have yS4 : (fun W => (convert 58 9 v1).run Try.prog W = .ok (.string (bk K1)) W ∧ (convert 58 9 v2).run Try.prog W = .ok (.string (bk K2)) W) w4 := ⟨by rw [← hs1]; exact Wi.str_of (Wi.Bs.kpD hB1x hR3 kp4) hl1, by rw [← hs2]; exact Wi.str_of (Wi.Bs.kpD hB2x hR3 kp4) hl2⟩
  have f0 := cells_of_block bx4
  have z0 : w4.cell? ⟨Nr, 0, none⟩ = some (.string { data := #[] }) := by rw [f0]; rfl
  have z1 : w4.cell? ⟨Nr, 1, none⟩ = some (.string { data := #[] }) := by rw [f0]; rfl
  have z2 : w4.cell? ⟨Nr, 2, none⟩ = some (.int .i64 0) := by rw [f0]; rfl
  have z3 : w4.cell? ⟨Nr, 3, none⟩ = some (.int .u64 0) := by rw [f0]; rfl
  have fr : ∀ i, w4.frozen? ⟨Nr, i, none⟩ = false := frozen_of bx4
  have fr0 := fr 0
  have fr1 := fr 1
  have fr2 := fr 2
  have fr3 := fr 3
  clear f0
  refine hK'.out _ _ (.inr yS4) ?_
  clear hK' K'
  try simp only [List.getElem_toArray, List.getElem_cons_succ, List.getElem_cons_zero, Act.put, List.setIfInBounds_toArray, List.set_cons_zero, List.set_cons_succ]
  refine wpAnyL_take 9 rfl (by kernel_rfl) (by kernel_rfl) (by kernel_rfl) (by kernel_rfl) (fun _ _ _ h => h) (by kernel_rfl) (by intro w' hS'; obtain ⟨a0, a1⟩ := hS'; go_simp <;> rfl) yS4 ?_
  try simp only [List.getElem_toArray, List.getElem_cons_succ, List.getElem_cons_zero, Act.put, List.setIfInBounds_toArray, List.set_cons_zero, List.set_cons_succ]
  refine wpAnyL_one 10 (by kernel_rfl) rfl (by kernel_rfl) ?_
  intro K' hK'
  go_simp
  refine hK'.out _ _ (.inl (by decide)) ?_
  clear hK' K'
  try simp only [List.getElem_toArray, List.getElem_cons_succ, List.getElem_cons_zero, Act.put, List.setIfInBounds_toArray, List.set_cons_zero, List.set_cons_succ]
  refine wpAnyL_done (by kernel_rfl) (NoPanic.normal ?_) _
  go_wp2
  (try simp only [Exit.inBlock, Exit.then])
  refine bodyPost_ret (results_rg rfl _ _ Nr _ _ _ _ rfl (rg_set bx4 _ _ _ _)) rfl ?_
  have kpz : Wi.Kp q w w4 := (kpd.trans kp3).trans kp4
  have hNl : w.heap.size ≤ Nr := Nat.le_of_eq HNr.out.symm
  have hqN : q < Nr := by omega
  refine ⟨rfl, ?_, kp_far (kp_far (kp_far (kp_far kpz hNl _ _) hNl _ _) hNl _ _) hNl _ _⟩
  exact (((hR4.kp (Wi.Kp.set Nr 0 _ _) hqN).kp (Wi.Kp.set Nr 1 _ _) hqN).kp (Wi.Kp.set Nr 2 _ _) hqN).kp (Wi.Kp.set Nr 3 _ _) hqN
end Go.Proofs.Ytldlimakcdaoaaa

