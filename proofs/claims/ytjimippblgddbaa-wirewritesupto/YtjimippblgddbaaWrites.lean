/- The walk of the law WireWrites: it answers true at every head and every slice of items that are together short enough, and what lay in memory before stays as it was. -/
import Derived.Test.YtjimippblgddbaaWro
import Derived.Test.YtjimippblgddbaaOpen
namespace Go.Proofs.Ytjimippblgddbaa
open Go.RowKit WireMath
set_option maxRecDepth 100000
set_option linter.unusedSimpArgs false

/-- All items' bytes. -/
def out (l : List It) : List Nat := l.flatMap fun x => itB x.d x.n x.s
theorem out_snoc (l : List It) (x : It) : out (l ++ [x]) = out l ++ itB x.d x.n x.s := by simp [out]

theorem fx_bytes : ∀ (k n : Nat), ∀ c ∈ fx k n, c < 256
  | 0, _, _, h => by simp [fx] at h
  | k + 1, n, c, h => by
    rw [fx] at h
    rcases List.mem_cons.1 h with rfl | h
    · omega
    · exact fx_bytes k _ c h
theorem itB_bytes (d : Int) (n : Nat) (s : List Nat) (hs : ∀ c ∈ s, c < 256) : ∀ c ∈ itB d n s, c < 256 := by
  unfold itB
  intro c hc
  split at hc
  · exact uv_bytes _ c hc
  split at hc
  · exact uv_bytes _ c hc
  split at hc
  · exact fx_bytes _ _ c hc
  split at hc
  · exact fx_bytes _ _ c hc
  split at hc
  · rcases List.mem_append.1 hc with h | h
    · exact uv_bytes _ c h
    · exact hs c h
  · simp at hc
theorem itB_len (d : Int) (n : Nat) (s : List Nat) (hn : n < 18446744073709551616) (hs : s.length < 18446744073709551616) : (itB d n s).length ≤ 10 + s.length := by
  have h1 := uv_len10 hn
  have h2 := uv_len10 (zz_lt (s64_ge hn).1 (s64_ge hn).2)
  have h3 := uv_len10 hs
  unfold itB
  split
  · omega
  split
  · omega
  split
  · rw [fx_length]; omega
  split
  · rw [fx_length]; omega
  split
  · rw [List.length_append]; omega
  · simp
theorem out_bytes {n₀ : Nat} {w : World} (l : List It) (h : ∀ x ∈ l, x.ok n₀ w) : ∀ c ∈ out l, c < 256 := by
  intro c hc
  obtain ⟨x, hx, hc⟩ := List.mem_flatMap.1 hc
  exact itB_bytes _ _ _ (h x hx).2.2.1 c hc
theorem out_len {n₀ : Nat} {w : World} (l : List It) (h : ∀ x ∈ l, x.ok n₀ w) : (out l).length ≤ tot l := by
  induction l with
  | nil => simp [out, tot]
  | cons x r ih =>
    have h1 := ih (fun y hy => h y (List.mem_cons_of_mem _ hy))
    have hx := h x (by simp)
    have h2 := itB_len x.d x.n x.s hx.2.1 (by have := hx.2.2.2.1; unfold maxLen at this; omega)
    simp only [out, tot, List.flatMap_cons, List.map_cons, List.sum_cons, List.length_append] at h1 ⊢
    omega
theorem tot_take (l : List It) : ∀ k, tot (l.take k) ≤ tot l := by
  induction l with
  | nil => intro k; simp [tot]
  | cons x r ih =>
    intro k
    cases k with
    | zero => simp [tot]
    | succ k =>
      have := ih k
      simp only [tot, List.take_succ_cons, List.map_cons, List.sum_cons] at this ⊢
      omega

theorem It.ok_below {n₀ : Nat} {w w' : World} {x : It} (h : x.ok n₀ w) (hb : Below n₀ w w') : x.ok n₀ w' := ⟨h.1.below hb, h.2⟩

set_option maxHeartbeats 4000000 in
theorem writes_law (hd : List Nat) (its : List It) (v0 v1 : Value) (w : World) (h0 : Bs w.heap.size w v0 hd) (hI : Items w.heap.size w v1 its) (hb0 : ∀ c ∈ hd, c < 256) (hlen : hd.length + tot its ≤ 100000000000000) :
    Calls Try.prog 3 #[v0, v1] w fun e w' => e = .returned (.bool true) ∧ Below w.heap.size w w' := by
  obtain ⟨ao, cap, rfl, hI2, hI3, hI4, hI5⟩ := hI
  go_enter Try.func3, Try.ntmps3
  go_wp2_with (at_builtin; refine wpList_append_bs2 rfl _ _ rfl w.heap.size _ [] rfl (Own.nil _ _) (Nat.le_refl _) w.heap.size _ hd rfl h0 ?c1 ?_)
  case c1 => simp; omega
  intro b1 w1 hO1 hb1 _ hF1
  have h01 := h0.below hb1
  go_wp2_with (at_builtin; refine wpList_append_bs2 rfl _ _ rfl w1.heap.size _ [] rfl (Own.nil _ _) (Nat.le_refl _) w.heap.size _ hd rfl h01 ?c1 ?_)
  case c1 => simp; omega
  intro b2 w2 hO2 hb2 _ hF2
  have hB2 : Below w.heap.size w w2 := hb1.trans (hb2.mono hb1.size)
  have hlt1 : ∀ k, b1.ownBlock = some k → k < w1.heap.size := fun k hk => (World.ownsRow.lt hO1 k hk).2
  have hge2 : ∀ k, b2.ownBlock = some k → w1.heap.size ≤ k := fun k hk => (World.ownsRow.lt hO2 k hk).1
  have hap : ∀ k, b1.ownBlock = some k → b2.ownBlock ≠ some k := fun k hk e => by have := hlt1 k hk; have := hge2 k e; omega
  have hBs1 : Bs w2.heap.size w2 b1 hd := (hO1.bs.below hb2).mono hb2.size
  have hOw2 : Own w.heap.size w2 b2 hd := hO2.mono hb1.size
  have hs2 : w1.heap.size ≤ w2.heap.size := hb2.size
  clear hO1 hO2 hF1 hF2 hge2 h01 hb1 hb2
  go_wp2
  go_loopg [5, 6, 7] its.length (fun g s5 s6 s7 wr => ∃ k : Nat, k + g = its.length ∧ s7 = .int .i64 (k : Int) ∧ Bs wr.heap.size wr s5 (hd ++ out (its.take k)) ∧ Own w.heap.size wr s6 (hd ++ out (its.take k)) ∧ (∀ j, s5.ownBlock = some j → s6.ownBlock ≠ some j) ∧ (∀ j, s5.ownBlock = some j → j < wr.heap.size) ∧ Below w.heap.size w wr)
  case atStart => exact ⟨0, by simp, rfl, by simpa [out] using hBs1, by simpa [out] using hOw2, hap, fun j hj => Nat.lt_of_lt_of_le (hlt1 j hj) hs2, hB2⟩
  case round =>
    obtain ⟨k, hk, rfl, hBs, hOw, hap5, hl5, hB⟩ := hrel
    clear hBs1 hOw2 hB2 hlt1 hap
    by_cases hlt : k < its.length
    · obtain ⟨b, off, rfl, hb, hc⟩ := hI5 (by rintro rfl; simp at hlt)
      have hget : its[k]? = some its[k] := List.getElem?_eq_getElem hlt
      obtain ⟨c0, c1, c2, c3⟩ := hc k _ hget
      have hx := It.ok_below (hI4 _ (List.getElem_mem hlt)) hB
      have hl1 := out_len (its.take k) (fun x hx => hI4 x (List.mem_of_mem_take hx))
      have hl2 := tot_take its k
      have hx0 := hI4 _ (List.getElem_mem hlt)
      have hl3 : tot (its.take k) + (10 + its[k].s.length) ≤ tot its := by
        have h1 := tot_take its (k + 1)
        rw [List.take_succ_eq_append_getElem hlt] at h1
        simp only [tot, List.map_append, List.sum_append, List.map_cons, List.map_nil, List.sum_cons, List.sum_nil] at h1 ⊢
        omega
      have hl4 := itB_len its[k].d its[k].n its[k].s hx0.2.1 (by have := hx0.2.2.2.1; unfold maxLen at this; omega)
      have hby : ∀ c ∈ hd ++ out (its.take k) ++ itB its[k].d its[k].n its[k].s, c < 256 := by
        intro c hc
        rcases List.mem_append.1 hc with h | h
        · rcases List.mem_append.1 h with h | h
          · exact hb0 c h
          · exact out_bytes _ (fun x hx => hI4 x (List.mem_of_mem_take hx)) c h
        · exact itB_bytes _ _ _ hx0.2.2.1 c h
      have E : Hid (out (its.take (k + 1)) = out (its.take k) ++ itB its[k].d its[k].n its[k].s) := by
        show _ = _
        rw [List.take_succ_eq_append_getElem hlt, out_snoc]
      have d0 := (hB.cell (p := ⟨b, off + k * 4, none⟩) hb).trans c0
      have d1 := (hB.cell (p := ⟨b, off + k * 4 + 1, none⟩) hb).trans c1
      have d2 := (hB.cell (p := ⟨b, off + k * 4 + 2, none⟩) hb).trans c2
      have d3 := (hB.cell (p := ⟨b, off + k * 4 + 3, none⟩) hb).trans c3
      have hli : (hd ++ out (its.take k)).length + its[k].s.length ≤ 140737488355000 := by rw [List.length_append]; omega
      have hlj : (hd ++ out (its.take k)).length + (itB its[k].d its[k].n its[k].s).length ≤ 140737488355328 := by rw [List.length_append]; omega
      have hlti : (k : Int) < (its.length : Int) := by omega
      have hkm : its.length ≤ 9223372036854775807 := by unfold maxLen at hI3; omega
      clear hc hI4 hI5 hb0 hl1 hl2 hl3 hl4 hx0 c0 c1 c2 c3 hget hlen
      generalize its[k] = x at *
      generalize hL : hd ++ out (its.take k) = L at *
      have hw := written_of x.d L x.s u5 x.n x.v x.m wr hBs (hx.1.mono hB.size) hx.2.1 hli
      have hsz := hB.size
      have hlt6 : ∀ j, u6.ownBlock = some j → j < wr.heap.size := fun j hj => (World.ownsRow.lt hOw j hj).2
      go_wp2_with fail
      refine hw.mono ?_
      rintro e w3 ⟨u1, u2, rfl, hF, hC, hM, hb3⟩
      have hOw3 := hOw.below hb3
      have hB3 : Below w.heap.size w w3 := hB.trans (hb3.mono hsz)
      clear hw
      go_wp2_with (at_builtin; refine wpList_append_bs2 rfl _ _ rfl w.heap.size _ L rfl hOw3 hB3.size w3.heap.size _ (itB x.d x.n x.s) rfl hM hlj ?_)
      intro u3 w4 hO4 hb4 hg4 hF4
      have hC4 : Bs w3.heap.size w4 u1 (L ++ itB x.d x.n x.s) := hC.grown hg4 (fun j hj e => by
        rcases hF j hj with h | h
        · have := hlt6 j e; omega
        · exact hap5 j h e)
      have hs4 : w3.heap.size ≤ w4.heap.size := hg4.size
      go_wp2_with fail
      refine (same_of _ _ (L ++ itB x.d x.n x.s) u1 u3 w4 hC4 hO4.bs hby).mono ?_
      rintro e wx ⟨rfl, hwx⟩
      subst hwx
      go_wp2
      go_roundg (gk - 1)
      case measure => omega
      case rel =>
        have hlt1 : ∀ j, u1.ownBlock = some j → j < w3.heap.size := fun j hj => by
          rcases hF j hj with h | h
          · exact h.2
          · exact Nat.lt_of_lt_of_le (hl5 j h) hb3.size
        refine ⟨k + 1, by omega, by go_num, ?_, ?_, fun j hj e => ?_, fun j hj => Nat.lt_of_lt_of_le (hlt1 j hj) hs4, hB3.trans hb4⟩
        · rw [E.out, ← List.append_assoc, hL]; exact hC4.mono hs4
        · rw [E.out, ← List.append_assoc, hL]; exact hO4
        · rcases hF4 j e with h | h
          · rcases hF j hj with h' | h'
            · have := hlt6 j h; omega
            · exact hap5 j h' h
          · have := hlt1 j hj; omega
    · have hlti : ¬ (k : Int) < (its.length : Int) := by omega
      go_wp2_with fail
      refine (awake_of _).mono ?_
      rintro e w5 ⟨rfl, hb5⟩
      go_wp2
      go_ret
      exact ⟨rfl, hB.trans (hb5.mono hB.size)⟩
end Go.Proofs.Ytjimippblgddbaa
