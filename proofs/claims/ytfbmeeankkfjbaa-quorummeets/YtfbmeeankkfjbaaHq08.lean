import Derived.Test.YtfbmeeankkfjbaaHq07
import Derived.Sort.WalkA
/- The contract of slices.Sort at great numbers, twelve of them at most. -/
namespace Go.Proofs.Ytfbmeeankkfjbaa
open Go.RowKit Go.Sort QuorumMath
set_option maxRecDepth 100000
set_option linter.unusedSimpArgs false
set_option linter.unusedVariables false

/-- Is one less? -/
def ltN (x y : Nat) : Bool := decide (x < y)
theorem swo_ltN : SWO ltN where
  irrefl x := by simp [ltN]
  trans x y z h1 h2 := by simp only [ltN, decide_eq_true_eq] at *; omega
  ntrans x y z h1 h2 := by simp only [ltN, decide_eq_false_iff_not] at *; omega
/-- Numbers, sorted. -/
def srtN (l : List Nat) : List Nat := l.mergeSort fun x y => !ltN y x
theorem isort_srt (l : List Nat) : (Sort.insertionSort ltN l.toArray 0 l.length).toList = srtN l := by
  have h := insertionSort_holds (lt := ltN) swo_ltN l.toArray 0 l.toArray.size (Nat.zero_le _) (Nat.le_refl _)
  have h2 := sorted_unique_holds swo_ltN (fun x y h1 h2 => by simp only [ltN, decide_eq_false_iff_not] at h1 h2; omega) l.toArray _ h.1 h.2
  simpa [srtN] using h2

theorem less64_of (x y : Nat) (w : World) : Calls Try.prog 52 #[.int .u64 (x : Int), .int .u64 (y : Int)] w fun e w' => e = .returned (.bool (ltN x y)) ∧ w' = w := by
  obtain ⟨B, HB⟩ : ∃ B, Hid (B = ltN x y) := ⟨_, rfl⟩
  rw [← HB.out]
  have kn : ∀ (z : Nat) W, Calls Try.prog 65 #[.int .u64 (z : Int)] W fun e w' => e = .returned (.bool false) ∧ w' = W := fun z W => by
    go_enter Try.func65, Try.ntmps65
    go_wp2
    go_ret
    exact ⟨by simp, rfl⟩
  have E : Hid (B = decide ((x : Int) < (y : Int))) := by show _ = _; rw [HB.out]; unfold ltN; simp
  clear HB
  go_enter Try.func52, Try.ntmps52
  go_wp2_with (go_at_call 65; refine (kn _ _).mono ?_; rintro e w' ⟨rfl, rfl⟩)
  go_ret
  exact ⟨by rw [E.out]; simp, rfl⟩

/-- What stands while it is sorted. -/
def StN (n₀ g n cap : Nat) (w wr : World) (d : Array Nat) : Prop := Ow natE 30 n₀ wr (.slice (some ⟨g, 0, none⟩) n cap) d.toList ∧ Below n₀ w wr ∧ d.size = n
theorem StN.cell {n₀ g n cap : Nat} {w wr : World} {d : Array Nat} (h : StN n₀ g n cap w wr d) {t : Nat} (ht : t < n) : wr.cell? ⟨g, t, none⟩ = some (.int .u64 (d[t]! : Nat)) ∧ wr.frozen? ⟨g, t, none⟩ = false := by
  obtain ⟨hO, hb, hs⟩ := h
  obtain ⟨g', cp, cur, e, -, -, hbk, -, -, hcell, hfro⟩ := hO.1.cells (by simp; omega)
  cases e
  have hd : d.toList[t]? = some d[t]! := by
    rw [Array.getElem?_toList, Array.getElem?_eq_getElem (by omega), getElem!_pos d t (by omega)]
  have := hcell t d[t]! 0 hd (by decide)
  rw [show t * natE.k + 0 = t from Nat.mul_one t] at this
  exact ⟨this, hfro t⟩
theorem StN.drewN {n₀ g n cap : Nat} {w wr : World} {d : Array Nat} (h : StN n₀ g n cap w wr d) (q : Nat) : StN n₀ g n cap w (wr.drewN q) d :=
  ⟨⟨h.1.1.same fun k hk => rfl, h.1.2⟩, below_drewN h.2.1 q, h.2.2⟩
theorem StN.swap {n₀ g n cap : Nat} {w wr : World} {d : Array Nat} (h : StN n₀ g n cap w wr d) {j k : Nat} (hj : j < n) (hk : k < n) (hjk : j ≠ k) : StN n₀ g n cap w ((wr.setCell ⟨g, j, none⟩ (.int .u64 (d[k]! : Nat))).setCell ⟨g, k, none⟩ (.int .u64 (d[j]! : Nat))) (swp d j k) := by
  obtain ⟨hO, hb, hs⟩ := h
  have hge := hO.2 g rfl
  have hd : ∀ t, t < n → d.toList[t]? = some d[t]! := fun t ht => by
    rw [Array.getElem?_toList, Array.getElem?_eq_getElem (by omega), getElem!_pos d t (by omega)]
  have h1 := Rk.setAt (E := natE) (j := 0) (x' := d[k]!) (u := .int .u64 (d[k]! : Nat)) hO.1 (hd j hj) (by decide) rfl
  rw [show j * natE.k + 0 = j from Nat.mul_one j] at h1
  have h2 := Rk.setAt (E := natE) (j := 0) (x' := d[j]!) (u := .int .u64 (d[j]! : Nat)) h1 (i := k) (x := d[k]!) (by rw [List.getElem?_set_ne hjk]; exact hd k hk) (by decide) rfl
  rw [show k * natE.k + 0 = k from Nat.mul_one k] at h2
  refine ⟨⟨?_, hO.2⟩, (hb.setCell (p := ⟨g, j, none⟩) hge _).setCell (p := ⟨g, k, none⟩) hge _, by rw [size_swp]; exact hs⟩
  unfold swp
  rw [Array.toList_setIfInBounds, Array.toList_setIfInBounds]
  exact h2

set_option maxHeartbeats 8000000 in
theorem insertion64_of (l : List Nat) (g cap n₀ : Nat) (w : World) (hO : Ow natE 30 n₀ w (.slice (some ⟨g, 0, none⟩) l.length cap) l) (hl : l.length ≤ 12) :
    Calls Try.prog 46 #[.slice (some ⟨g, 0, none⟩) l.length cap, .int .i64 0, .int .i64 (l.length : Int)] w fun e w' => e = .returned (.tuple #[]) ∧ Ow natE 30 n₀ w' (.slice (some ⟨g, 0, none⟩) l.length cap) (srtN l) ∧ Below n₀ w w' := by
  have H0 : Hid (StN n₀ g l.length cap w w l.toArray) := ⟨by simpa using hO, Below.refl _ _, by simp⟩
  obtain ⟨T, HT⟩ : ∃ T : World → Prop, Hid (T = fun w' => Ow natE 30 n₀ w' (.slice (some ⟨g, 0, none⟩) l.length cap) (srtN l) ∧ Below n₀ w w') := ⟨_, rfl⟩
  have hT : ∀ w', (Ow natE 30 n₀ w' (.slice (some ⟨g, 0, none⟩) l.length cap) (srtN l) ∧ Below n₀ w w') = T w' := fun w' => by rw [HT.out]
  simp only [hT]
  have FIN : Hid (∀ wr dk, StN n₀ g l.length cap w wr dk → dk = Sort.insertionSort ltN l.toArray 0 l.length → T wr) := fun wr dk h e => by
    rw [HT.out]
    subst e
    have := h.1
    rw [isort_srt] at this
    exact ⟨this, h.2.1⟩
  clear hT HT hO
  obtain ⟨n, hn⟩ : ∃ n, n = l.length := ⟨_, rfl⟩
  have HN : Hid (n = l.length) := hn
  rw [← hn] at H0 FIN hl ⊢
  clear hn
  obtain ⟨off, hoff⟩ : ∃ off, Hid (off = 0) := ⟨0, rfl⟩
  have hv : (Value.slice (some ⟨g, 0, none⟩) n cap) = .slice (some ⟨g, off, none⟩) n cap := by rw [hoff.out]
  rw [hv]
  clear hv
  go_enter Try.func46, Try.ntmps46
  go_wp2
  go_loopg [6] (n + 1) (fun gh s6 wr => ∃ (i : Nat) (dk : Array Nat), i + gh = n + 2 ∧ 1 ≤ i ∧ s6 = .int .i64 (i : Int) ∧ Hid (StN n₀ g n cap w wr dk) ∧ Hid (insOuter ltN 0 n i dk = insOuter ltN 0 n 1 l.toArray))
  case atStart => exact ⟨1, l.toArray, by omega, Nat.le_refl _, rfl, H0, rfl⟩
  case round =>
    obtain ⟨i, dk, hig, hi1, rfl, HS, HQ⟩ := hrel
    clear H0
    by_cases hlt : i < n
    · have hlti : (i : Int) < (n : Int) := by omega
      obtain ⟨GK, hGK⟩ : ∃ GK, GK = gk := ⟨_, rfl⟩
      have hig' : i + GK = n + 2 := by omega
      have HGK : Hid (GK = gk) := hGK
      obtain ⟨w9, hw9⟩ : ∃ w9, w9 = wr := ⟨_, rfl⟩
      subst hw9
      clear hGK
      go_wp2
      go_loopg [7] (i + 1) (fun gh s7 wr => ∃ (j : Nat) (dj : Array Nat), j < gh ∧ j ≤ i ∧ s7 = .int .i64 (j : Int) ∧ Hid (StN n₀ g n cap w wr dj) ∧ Hid (insInner ltN 0 j dj = insInner ltN 0 i dk))
      case atStart => exact ⟨i, dk, by omega, Nat.le_refl _, rfl, HS, rfl⟩
      case round =>
        obtain ⟨j, dj, hjg, hji, rfl, HS2, HI⟩ := hrel
        clear HS
        obtain ⟨G, HG⟩ : ∃ G : Nat → Nat, Hid (∀ t, G t = dj[t]!) := ⟨fun t => dj[t]!, fun _ => rfl⟩
        have hcw : ∀ t, t < n → wr.cell? ⟨g, off + t, none⟩ = some (.int .u64 (G t : Int)) := fun t ht => by
          rw [hoff.out, Nat.zero_add, HG.out]
          exact (HS2.out.cell ht).1
        have hfw : ∀ t, t < n → wr.frozen? ⟨g, off + t, none⟩ = false := fun t ht => by
          rw [hoff.out, Nat.zero_add]
          exact (HS2.out.cell ht).2
        have kl := fun x y W => less64_of x y W
        by_cases hj0 : 0 < j
        · have hj0i : (0 : Int) < (j : Int) := by omega
          have hjn : j < n := by omega
          have hjn1 : j - 1 < n := by omega
          clear FIN HN
          go_wp2
          go_quiet (first | (go_at_call 52; refine Calls.quiet_of_same (kl _ _ _)))
          go_wp2
          · have hlN : ltN (G j) (G (j - 1)) = true := by assumption
            go_region
            all_goals go_wp2
            go_roundg (gk - 1)
            case measure => omega
            case rel =>
              refine ⟨j - 1, swp dj j (j - 1), by omega, by omega, by congr 1; omega, ?_, ?_⟩
              · have h9 := (HS2.out.drewN (nq + 1)).swap (j := j) (k := j - 1) hjn hjn1 (by omega)
                rw [← HG.out, ← HG.out] at h9
                show StN _ _ _ _ _ _ _
                rw [hoff.out, Nat.zero_add, Nat.zero_add]
                exact h9
              · show _ = _
                rw [← HI.out, insInner_go ltN 0 j dj hj0 (by rw [← HG.out, ← HG.out]; exact hlN)]
          · have hlN : ltN (G j) (G (j - 1)) = false := by assumption
            go_roundg (GK - 1)
            case measure => have := HGK.out; omega
            case rel => exact ⟨i + 1, dj, by omega, by omega, by go_num, HS2.out.drewN nq, by show _ = _; rw [← HQ.out, insOuter_go _ _ _ _ _ hlt, ← HI.out, insInner_stop _ _ _ _ (Or.inr (by rw [← HG.out, ← HG.out]; exact hlN))]⟩
        · obtain rfl : j = 0 := by omega
          clear FIN HN
          go_wp2
          go_quiet (first | (go_at_call 52; refine Calls.quiet_of_same (kl _ _ _)))
          go_wp2
          go_roundg (GK - 1)
          case measure => have := HGK.out; omega
          case rel => exact ⟨i + 1, dj, by omega, by omega, by go_num, HS2.out.drewN nq, by show _ = _; rw [← HQ.out, insOuter_go _ _ _ _ _ hlt, ← HI.out, insInner_stop _ _ _ _ (Or.inl (Nat.zero_le _))]⟩
    · have hlti : ¬ (i : Int) < (n : Int) := by omega
      have E : Hid (T wr) := FIN.out wr dk HS.out (by unfold Sort.insertionSort; rw [← HQ.out, insOuter_stop _ _ _ _ _ hlt])
      clear HS HQ FIN HN
      go_wp2
      go_end0
      exact ⟨rfl, E.out⟩
end Go.Proofs.Ytfbmeeankkfjbaa

