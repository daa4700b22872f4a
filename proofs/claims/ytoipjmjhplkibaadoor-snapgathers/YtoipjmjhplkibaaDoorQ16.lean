import Derived.Test.YtoipjmjhplkibaaDoorQ11
import Derived.Test.YtoipjmjhplkibaaDoorQ15
/- The contract of the program's Next: the frame at the beginning of bytes, its bytes in memory of the call's own, or why there is none; what lay in memory before stays as it was. -/
namespace Go.Proofs.YtoipjmjhplkibaaDoor.Fr
open Go.RowKit WireMath CrcMath FrameMath
set_option maxRecDepth 100000
set_option linter.unusedSimpArgs false

theorem results_tmp4 {fn : Func} {t u v x : Tmp} (h : fn.results = #[.tmp t, .tmp u, .tmp v, .tmp x]) (tmps : Array Value) (P : Program) (w : World) :
    (results fn tmps).run P w = .ok (.tuple #[tmps.getD t undef, tmps.getD u undef, tmps.getD v undef, tmps.getD x undef]) w := by
  simp [results, h]

/-- What Next tells, the bytes at v. -/
def nxV (x : Nx) (v : Value) : Value :=
  match x with
  | .ok (k, _, n) => .tuple #[.int .u8 (k : Int), v, .int .i64 (n : Int), .int .i64 0]
  | .error e => .tuple #[.int .u8 0, v, .int .i64 0, .int .i64 (e : Int)]
def nxD : Nx → List Nat
  | .ok (_, d, _) => d
  | .error _ => []

theorem Bs.cut {n₀ : Nat} {w : World} {l : List Nat} {b off len cap : Nat} (h : Bs n₀ w (.slice (some ⟨b, off, none⟩) len cap) l) (k s : Nat) (hk : k + s ≤ l.length) (c : Nat) (hc : s ≤ c) (hcm : c ≤ maxLen) :
    Bs n₀ w (.slice (some ⟨b, off + k, none⟩) s c) ((l.drop k).take s) := by
  obtain ⟨ao, cap', h1, h2, h3, h4, h5⟩ := h
  cases h1
  have hlen : ((l.drop k).take s).length = s := by rw [List.length_take, List.length_drop]; omega
  refine ⟨_, _, by rw [hlen], by rw [hlen]; exact hc, hcm, (fun h => by cases h), fun hne => ?_⟩
  have hne' : l ≠ [] := by rintro rfl; simp at hne
  obtain ⟨b', off', e1, e2, e3⟩ := h5 hne'
  cases e1
  refine ⟨b, off + k, rfl, e2, fun j c hj => ?_⟩
  rw [List.getElem?_take] at hj
  split at hj
  · rw [List.getElem?_drop] at hj
    rw [Nat.add_assoc]
    exact e3 (k + j) c hj
  · cases hj

theorem Own.at {n₀ : Nat} {w : World} {v : Value} {m : List Nat} (h : Own n₀ w v m) (hm : m ≠ []) : ∃ g cap, v = .slice (some ⟨g, 0, none⟩) m.length cap ∧ n₀ ≤ g ∧ g < w.heap.size ∧ m.length ≤ cap ∧ cap ≤ maxLen := by
  obtain ⟨h1, ⟨h2, h3⟩ | ⟨g, cap, cur, h2, hg, hb, hle, hmx, _⟩⟩ := h
  · exact absurd (List.eq_nil_of_length_eq_zero h3) hm
  · exact ⟨g, cap, h2, hg, (Array.getElem?_eq_some_iff.1 hb).1, hle, hmx⟩
theorem Own.fresh {n₀ : Nat} {w : World} {v : Value} {m : List Nat} (h : Own n₀ w v m) : ∀ k, v.ownBlock = some k → n₀ ≤ k ∧ k < w.heap.size := fun k hk => World.ownsRow.lt h k hk

set_option maxHeartbeats 2000000 in
theorem next_err (n₀ : Nat) (l : List Nat) (v : Value) (w : World) (e : Nat) (he : e ≠ 0) (hB : Bs n₀ w v l)
    (hE : Calls Tryd.prog 56 #[v] w fun e' w' => e' = .returned (.tuple #[.int .i64 0, .int .i64 0, .int .i64 (e : Int)]) ∧ Below w.heap.size w w') :
    Calls Tryd.prog 43 #[v] w fun e' w' => e' = .returned (nxV (.error e) (.slice none 0 0)) ∧ Below w.heap.size w w' := by
  obtain ⟨ao, cap, rfl, -⟩ := hB
  have hei : ¬ (e : Int) = 0 := by omega
  have hej : ((e : Int) != 0) = true := by simp; omega
  go_enter Tryd.func43, Tryd.ntmps43
  go_wp2_with fail
  refine hE.mono ?_
  rintro e' w1 ⟨rfl, hb⟩
  go_wp2
  (try simp only [Exit.inBlock, Exit.then])
  refine bodyPost_ret (results_tmp4 rfl _ _ _) rfl ?_
  exact ⟨rfl, hb⟩

set_option maxHeartbeats 2000000 in
theorem next_short (n₀ : Nat) (l : List Nat) (v : Value) (w : World) (k s : Nat) (hB : Bs n₀ w v l) (hlt : l.length < k + s)
    (hE : Calls Tryd.prog 56 #[v] w fun e' w' => e' = .returned (.tuple #[.int .i64 (k : Int), .int .i64 ((k + s : Nat) : Int), .int .i64 0]) ∧ Below w.heap.size w w') :
    Calls Tryd.prog 43 #[v] w fun e' w' => e' = .returned (nxV (.error 12) (.slice none 0 0)) ∧ Below w.heap.size w w' := by
  obtain ⟨ao, cap, rfl, -⟩ := hB
  have hi : (l.length : Int) < ((k + s : Nat) : Int) := by omega
  generalize k + s = m at *
  go_enter Tryd.func43, Tryd.ntmps43
  go_wp2_with fail
  refine hE.mono ?_
  rintro e' w1 ⟨rfl, hb⟩
  go_wp2
  (try simp only [Exit.inBlock, Exit.then])
  refine bodyPost_ret (results_tmp4 rfl _ _ _) rfl ?_
  exact ⟨rfl, hb⟩

set_option maxHeartbeats 2000000 in
theorem next_text (n₀ : Nat) (l : List Nat) (b off cap : Nat) (w : World) (k s : Nat) (hT : Tab w) (hB : Bs n₀ w (.slice (some ⟨b, off, none⟩) l.length cap) l) (hl : ∀ c ∈ l, c < 256) (hn₀ : n₀ ≤ w.heap.size) (hlt : k + s ≤ l.length) (h5 : 5 ≤ s) (h20 : s ≤ 1048576) (hs : ¬ ((l.drop k).take s).take 4 = be4 (crcSum (((l.drop k).take s).drop 4)))
    (hE : Calls Tryd.prog 56 #[.slice (some ⟨b, off, none⟩) l.length cap] w fun e' w' => e' = .returned (.tuple #[.int .i64 (k : Int), .int .i64 ((k + s : Nat) : Int), .int .i64 0]) ∧ Below w.heap.size w w') :
    Calls Tryd.prog 43 #[.slice (some ⟨b, off, none⟩) l.length cap] w fun e' w' => e' = .returned (nxV (.error 5) (.slice none 0 0)) ∧ Below w.heap.size w w' := by
  have hcl : l.length ≤ cap ∧ cap ≤ maxLen := by obtain ⟨_, _, h1, h2, h3, _⟩ := id hB; cases h1; exact ⟨h2, h3⟩
  have hcm : (cap : Int) ≤ 9223372036854775807 := by unfold maxLen at hcl; omega
  have hcut : ∀ w', Below w.heap.size w w' → Bs n₀ w' (.slice (some ⟨b, off + k, none⟩) s s) ((l.drop k).take s) := fun w' hb => (hB.below (hb.mono hn₀)).cut k s hlt s (Nat.le_refl _) (by unfold maxLen; omega)
  have hlc : ∀ c ∈ (l.drop k).take s, c < 256 := fun c hc => hl c (List.mem_of_mem_drop (List.mem_of_mem_take hc))
  have hlen : ((l.drop k).take s).length = s := by rw [List.length_take, List.length_drop]; omega
  have ho : ∀ w', Below w.heap.size w w' → Calls Tryd.prog 57 #[.slice (some ⟨b, off + k, none⟩) s s] w' fun e w'' => e = .returned (.tuple #[.slice none 0 0, .bool false]) ∧ ∃ j, w'' = w'.drewN j := fun w' hb =>
    open_long n₀ _ _ w' (hT.below' hb (Nat.le_refl _)) (hcut w' hb) hlc (by omega) (by omega) hs
  have h1 : ¬ (l.length : Int) < ((k + s : Nat) : Int) := by omega
  have h2 : (k : Int) ≤ ((k + s : Nat) : Int) := by omega
  have h3 : ((k + s : Nat) : Int) ≤ (cap : Int) := by omega
  have h4 : k ≤ k + s := by omega
  have h6 : k + s ≤ cap := by omega
  have h7 : k + s - k = s := by omega
  have h8 : ¬ s = 0 := by omega
  clear hB hcut hs hlc
  generalize k + s = m at *
  go_enter Tryd.func43, Tryd.ntmps43
  go_wp2_with fail
  refine hE.mono ?_
  rintro e' w1 ⟨rfl, hb⟩
  go_wp2_with fail
  refine (ho w1 hb).mono ?_
  rintro e' w2 ⟨rfl, j, rfl⟩
  go_wp2
  (try simp only [Exit.inBlock, Exit.then])
  refine bodyPost_ret (results_tmp4 rfl _ _ _) rfl ?_
  exact ⟨rfl, below_drewN hb _⟩

set_option maxHeartbeats 2000000 in
theorem next_right (n₀ : Nat) (l : List Nat) (b off cap : Nat) (w : World) (k s : Nat) (hT : Tab w) (hB : Bs n₀ w (.slice (some ⟨b, off, none⟩) l.length cap) l) (hl : ∀ c ∈ l, c < 256) (hn₀ : n₀ ≤ w.heap.size) (hlt : k + s ≤ l.length) (h5 : 5 ≤ s) (h20 : s ≤ 1048576) (hs : ((l.drop k).take s).take 4 = be4 (crcSum (((l.drop k).take s).drop 4)))
    (c : Nat) (d : List Nat) (hcd : ((l.drop k).take s).drop 4 = c :: d)
    (hE : Calls Tryd.prog 56 #[.slice (some ⟨b, off, none⟩) l.length cap] w fun e' w' => e' = .returned (.tuple #[.int .i64 (k : Int), .int .i64 ((k + s : Nat) : Int), .int .i64 0]) ∧ Below w.heap.size w w') :
    Calls Tryd.prog 43 #[.slice (some ⟨b, off, none⟩) l.length cap] w fun e' w' => ∃ v', e' = .returned (nxV (.ok (c, d, (k + s))) v') ∧ Bs w'.heap.size w' v' d ∧ (∀ j, v'.ownBlock = some j → w.heap.size ≤ j ∧ j < w'.heap.size) ∧ Below w.heap.size w w' := by
  have hcl : l.length ≤ cap ∧ cap ≤ maxLen := by obtain ⟨_, _, h1, h2, h3, _⟩ := id hB; cases h1; exact ⟨h2, h3⟩
  have hcm : (cap : Int) ≤ 9223372036854775807 := by unfold maxLen at hcl; omega
  have hcut : ∀ w', Below w.heap.size w w' → Bs n₀ w' (.slice (some ⟨b, off + k, none⟩) s s) ((l.drop k).take s) := fun w' hb => (hB.below (hb.mono hn₀)).cut k s hlt s (Nat.le_refl _) (by unfold maxLen; omega)
  have hlc : ∀ c ∈ (l.drop k).take s, c < 256 := fun c hc => hl c (List.mem_of_mem_drop (List.mem_of_mem_take hc))
  have hlen : ((l.drop k).take s).length = s := by rw [List.length_take, List.length_drop]; omega
  have hld : d.length + 5 = s := by
    have := congrArg List.length hcd
    rw [List.length_drop, hlen, List.length_cons] at this
    omega
  have ho : ∀ w', Below w.heap.size w w' → Calls Tryd.prog 57 #[.slice (some ⟨b, off + k, none⟩) s s] w' fun e w'' => ∃ v', e = .returned (.tuple #[v', .bool true]) ∧ Own w'.heap.size w'' v' (c :: d) ∧ Below w'.heap.size w' w'' := fun w' hb => by
    have := open_right n₀ _ _ w' (hT.below' hb (Nat.le_refl _)) (hcut w' hb) hlc (Nat.le_trans hn₀ hb.size) (by omega) (by omega) hs
    rw [hcd] at this
    exact this
  have h1 : ¬ (l.length : Int) < ((k + s : Nat) : Int) := by omega
  have h2 : (k : Int) ≤ ((k + s : Nat) : Int) := by omega
  have h3 : ((k + s : Nat) : Int) ≤ (cap : Int) := by omega
  have h4 : k ≤ k + s := by omega
  have h6 : k + s ≤ cap := by omega
  have h7 : k + s - k = s := by omega
  have h8 : ¬ s = 0 := by omega
  clear hB hcut hs hlc hcd hlen
  generalize k + s = m at *
  go_enter Tryd.func43, Tryd.ntmps43
  go_wp2_with fail
  refine hE.mono ?_
  rintro e' w1 ⟨rfl, hb⟩
  go_wp2_with fail
  refine (ho w1 hb).mono ?_
  rintro e' w2 ⟨v', rfl, hO, hb2⟩
  have hsz := hb.size
  have hBo := hO.bs
  obtain ⟨g, cp, rfl, hg, hgs, hle, hcx⟩ := hO.at (by simp)
  have hc0 : w2.cell? ⟨g, 0, none⟩ = some (.int .u8 (c : Int)) := by
    obtain ⟨_, _, e1, _, _, _, e5⟩ := id hBo
    cases e1
    obtain ⟨b', off', f1, _, f3⟩ := e5 (by simp)
    cases f1
    exact f3 0 c rfl
  have hbel : Below w.heap.size w w2 := hb.trans (hb2.mono hsz)
  clear ho hE hb hb2 hO
  simp only [List.length_cons] at hle hBo ⊢
  have hd1 : (1 : Int) ≤ ((d.length + 1 : Nat) : Int) := by omega
  have hd2 : ((d.length + 1 : Nat) : Int) ≤ (cp : Int) := by omega
  have hd3 : (cp : Int) ≤ 9223372036854775807 := by unfold maxLen at hcx; omega
  have hd4 : 1 ≤ d.length + 1 := by omega
  have hd0 : (0 : Int) < ((d.length + 1 : Nat) : Int) := by omega
  have hd00 : 0 < d.length + 1 := by omega
  have hd5 : d.length + 1 ≤ cp := hle
  go_wp2
  go_quiet (fail)
  have fresh : ∀ j, (some g : Option Nat) = some j → w.heap.size ≤ j ∧ j < w2.heap.size := fun j hj => by cases hj; omega
  have hcut : Bs w2.heap.size w2 (.slice (some ⟨g, 1, none⟩) d.length d.length) d := by
    have := hBo.cut 1 d.length (by simp; omega) d.length (Nat.le_refl _) (by omega)
    simpa using this
  have hbel2 : Below w.heap.size w (w2.drewN nq) := below_drewN hbel _
  clear hBo hbel
  go_wp2
  · (try simp only [Exit.inBlock, Exit.then])
    refine bodyPost_ret (results_tmp4 rfl _ _ _) rfl ?_
    exact ⟨_, rfl, ⟨some _, 0, rfl, Nat.le_refl _, Nat.zero_le _, fun _ => rfl, fun h => absurd rfl h⟩, fresh, hbel2⟩
  · (try simp only [Exit.inBlock, Exit.then])
    refine bodyPost_ret (results_tmp4 rfl _ _ _) rfl ?_
    exact ⟨_, rfl, hcut.drewN nq, fresh, hbel2⟩

theorem Bs.some {n₀ : Nat} {w : World} {v : Value} {l : List Nat} (h : Bs n₀ w v l) (hl : l ≠ []) : ∃ b off cap, v = .slice (some ⟨b, off, none⟩) l.length cap := by
  obtain ⟨ao, cap, h1, _, _, _, h5⟩ := h
  obtain ⟨b, off, e, _⟩ := h5 hl
  exact ⟨b, off, cap, by rw [h1, e]⟩

theorem next_of (n₀ : Nat) (l : List Nat) (v : Value) (w : World) (hT : Tab w) (hB : Bs n₀ w v l) (hl : ∀ c ∈ l, c < 256) (hn₀ : n₀ ≤ w.heap.size) :
    Calls Tryd.prog 43 #[v] w fun e' w' => ∃ v', e' = .returned (nxV (next l) v') ∧ Bs w'.heap.size w' v' (nxD (next l)) ∧ (∀ j, v'.ownBlock = some j → w.heap.size ≤ j ∧ j < w'.heap.size) ∧ Below w.heap.size w w' := by
  have err : ∀ e, next l = .error e → (Calls Tryd.prog 43 #[v] w fun e' w' => e' = .returned (nxV (.error e) (.slice none 0 0)) ∧ Below w.heap.size w w') →
      Calls Tryd.prog 43 #[v] w fun e' w' => ∃ v', e' = .returned (nxV (next l) v') ∧ Bs w'.heap.size w' v' (nxD (next l)) ∧ (∀ j, v'.ownBlock = some j → w.heap.size ≤ j ∧ j < w'.heap.size) ∧ Below w.heap.size w w' := by
    intro e he hc
    rw [he]
    refine hc.mono ?_
    rintro e' w' ⟨rfl, hb⟩
    exact ⟨_, rfl, Bs.nil _ _, (fun j hj => by cases hj), hb⟩
  by_cases hgap : l.length < 3 ∧ (l.all fun c => decide (128 ≤ c)) = true
  · refine err 12 (next_gap hgap.1 hgap.2) (next_err n₀ l v w 12 (by decide) hB ?_)
    refine (ends_gap n₀ l v w hB hgap.1 hgap.2).mono ?_
    rintro e' w' ⟨he, rfl⟩
    exact ⟨he, Below.refl _ _⟩
  have hE := ends_some n₀ l v w hB hn₀ hl hgap
  cases hr : rd 10 0 0 (src (l.take 3) 0 0) with
  | none =>
    obtain ⟨e1, e2, e3⟩ := nu_none 1048576 hr
    rw [e1, e2, e3, if_pos (.inl (wb_ne 0 5 (by decide)))] at hE
    exact err 5 (next_bad hl hgap hr) (next_err n₀ l v w 5 (by decide) hB hE)
  | some x =>
    obtain ⟨s, k⟩ := x
    obtain ⟨hnx, hk0, hk3, hkl⟩ := next_num hl hr
    by_cases hm : (s : Int) ≤ 1048576
    · obtain ⟨e1, e2, e3⟩ := nu_some hr hm
      rw [e1, e2, e3, Nat.zero_add] at hE
      have hs20 : s ≤ 1048576 := by omega
      by_cases h5 : s < 5
      · rw [if_pos (.inr h5)] at hE
        exact err 5 (hnx.trans (body_small (.inl h5))) (next_err n₀ l v w 5 (by decide) hB hE)
      · rw [if_neg (by omega)] at hE
        by_cases hlt : l.length < k + s
        · exact err 12 (hnx.trans (body_gap (by omega) hs20 hlt hkl)) (next_short n₀ l v w k s hB hlt hE)
        · obtain ⟨b, off, cap, rfl⟩ := hB.some (by rintro rfl; simp at hkl; omega)
          by_cases hs : ((l.drop k).take s).take 4 = be4 (crcSum (((l.drop k).take s).drop 4))
          · have hnx2 := hnx.trans (body_ok (by omega) hs20 (by omega) hs)
            have hlen : ((l.drop k).take s).length = s := by rw [List.length_take, List.length_drop]; omega
            have hcd : ((l.drop k).take s).drop 4 = ((l.drop k).take s)[4]?.getD 0 :: ((l.drop k).take s).drop 5 := by
              rw [List.drop_eq_getElem_cons (by omega), List.getElem?_eq_getElem (by omega)]
              rfl
            rw [hnx2]
            exact next_right n₀ l b off cap w k s hT hB hl hn₀ (by omega) (by omega) hs20 hs _ _ hcd hE
          · exact err 5 (hnx.trans (body_text (by omega) hs20 (by omega) hs)) (next_text n₀ l b off cap w k s hT hB hl hn₀ (by omega) (by omega) hs20 hs hE)
    · obtain ⟨e1, e2, e3⟩ := nu_long hr hm
      rw [e1, e2, e3, if_pos (.inl (wb_ne 0 3 (by decide)))] at hE
      exact err 5 (hnx.trans (body_small (.inr (by omega)))) (next_err n₀ l v w 5 (by decide) hB hE)
end Go.Proofs.YtoipjmjhplkibaaDoor.Fr

/- The contracts of the program's Put, of the document's own Frame and of the law's own awake: a frame's bytes in memory of the call's own; what lay in memory before stays as it was. -/
namespace Go.Proofs.YtoipjmjhplkibaaDoor.Fr
open Go.RowKit WireMath CrcMath FrameMath
set_option maxRecDepth 100000
set_option linter.unusedSimpArgs false

theorem frame_eq (k : Nat) (l : List Nat) : [] ++ uv (sealed (k :: l)).length ++ sealed (k :: l) = frameB k l := by
  unfold frameB
  rw [sealed_length, List.length_cons, List.nil_append]

theorem put_long (k : Nat) (l : List Nat) (n₀ : Nat) (v : Value) (w : World) (hB : Bs n₀ w v l) (hlen : 1048571 < l.length) :
    Calls Tryd.prog 40 #[.int .u8 (k : Int), v] w fun e w' => e = .returned (.tuple #[.slice none 0 0, .int .i64 3]) ∧ w' = w := by
  obtain ⟨ao, cap, rfl, -⟩ := hB
  have hi : (1048571 : Int) < (l.length : Int) := by omega
  go_enter Tryd.func40, Tryd.ntmps40
  go_wp2
  go_ret2
  exact ⟨rfl, rfl⟩

set_option maxHeartbeats 2000000 in
theorem put_of (k : Nat) (l : List Nat) (n₀ : Nat) (v : Value) (w : World) (hT : Tab w) (hB : Bs n₀ w v l) (hk : k < 256) (hl : ∀ c ∈ l, c < 256) (hn₀ : n₀ ≤ w.heap.size) (hlen : l.length ≤ 1048571) :
    Calls Tryd.prog 40 #[.int .u8 (k : Int), v] w fun e w' => ∃ v', e = .returned (.tuple #[v', .int .i64 0]) ∧ Own w.heap.size w' v' (frameB k l) ∧ Below w.heap.size w w' := by
  have hO := own_new w #[.int .u8 (k : Int)] [k] rfl (by simp [maxLen])
  have hb1 := (Below.refl w.heap.size w).alloc (Nat.le_refl _) (.cells #[.int .u8 (k : Int)] 5)
  have hB1 := hB.below (hb1.mono hn₀)
  have hc1 : [k].length + l.length ≤ 140737488355328 := by simp; omega
  have hkl : ∀ c ∈ k :: l, c < 256 := fun c hc => by
    rcases List.mem_cons.1 hc with rfl | h
    · exact hk
    · exact hl c h
  have E : Hid (frameB k l = [] ++ uv (sealed (k :: l)).length ++ sealed (k :: l)) := (frame_eq k l).symm
  have hs : ∀ n₁ w' v', Below w.heap.size w w' → Bs n₁ w' v' (k :: l) → n₁ ≤ w'.heap.size → Calls Tryd.prog 51 #[v'] w' fun e w'' => ∃ v'', e = .returned v'' ∧ Own w'.heap.size w'' v'' (sealed (k :: l)) ∧ Below w'.heap.size w' w'' := fun n₁ w' v' hb hB' hn => seal_of n₁ (k :: l) v' w' (hT.below' hb (Nat.le_refl _)) hB' hkl hn (by simp; omega)
  have hby : ∀ w' v', Bs w'.heap.size w' v' (sealed (k :: l)) → Calls Tryd.prog 52 #[.slice none 0 0, v'] w' fun e w'' => ∃ v'', e = .returned v'' ∧ Own w'.heap.size w'' v'' (frameB k l) ∧ Below w'.heap.size w' w'' := fun w' v' hB' => by
    have := bytes_of 0 w'.heap.size [] (sealed (k :: l)) (.slice none 0 0) v' w' (Bs.nil _ _) hB' (Nat.le_refl _) (by rw [sealed_length]; simp; omega)
    rw [← E.out] at this
    exact this
  obtain ⟨ao, cap, rfl, -⟩ := id hB
  have hi : ¬ (1048571 : Int) < (l.length : Int) := by omega
  clear hB E
  generalize frameB k l = F at *
  go_enter Tryd.func40, Tryd.ntmps40
  go_wp2_with (at_builtin; refine wpList_append_bs rfl _ _ rfl w.heap.size _ [k] rfl hO hb1.size n₀ _ l rfl hB1 hc1 ?_)
  intro v2 w2 hO2 hb2
  have hB2 : Bs w2.heap.size w2 v2 (k :: l) := hO2.bs
  have hbel := hb1.trans hb2
  go_wp2_with fail
  refine (hs w2.heap.size w2 v2 hbel hB2 (Nat.le_refl _)).mono ?_
  rintro e w3 ⟨v3, rfl, hO3, hb3⟩
  have hbel3 := hbel.trans (hb3.mono hbel.size)
  go_wp2_with fail
  refine (hby w3 v3 hO3.bs).mono ?_
  rintro e w4 ⟨v4, rfl, hO4, hb4⟩
  go_wp2
  go_ret2
  exact ⟨v4, rfl, hO4.mono hbel3.size, hbel3.trans (hb4.mono hbel3.size)⟩

theorem str_ne {l r : List Nat} (hl : ∀ c ∈ l, c < 256) (hr : ∀ c ∈ r, c < 256) (h : l ≠ r) : ((str l).toList == (str r).toList) = false := by
  rw [beq_eq_false_iff_ne]
  intro e
  refine h (str_inj hl hr ?_)
  rw [ByteArray.toList_eq, ByteArray.toList_eq] at e
  exact ByteArray.ext (Array.toList_inj.1 e)
end Go.Proofs.YtoipjmjhplkibaaDoor.Fr

