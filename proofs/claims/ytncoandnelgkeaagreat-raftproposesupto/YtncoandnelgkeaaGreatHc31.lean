import Derived.Test.YtncoandnelgkeaaGreatHc03
import Derived.Sort.WalkA
/- The contract of slices.Sort at great numbers, twelve of them at most. -/
namespace Go.Proofs.YtncoandnelgkeaaGreat
open Go.RowKit Go.Sort QuorumMath
set_option maxRecDepth 100000
set_option linter.unusedSimpArgs false
set_option linter.unusedVariables false

/-- Is one less? -/
def ltN (x y : Nat) : Bool := decide (x < y)
theorem swo_ltN : SWO ltN where
  irrefl x := by simp [ltN]
  trans x y z h1 h2 := by simp only [ltN, decide_eq_true_eq] at *; omega
  ntrans x y z h1 h2 := by simp only [ltN, decide_eq_false_iff_not] at *; omega
/-- Numbers, sorted. -/
def srtN (l : List Nat) : List Nat := l.mergeSort fun x y => !ltN y x
theorem isort_srt (l : List Nat) : (Sort.insertionSort ltN l.toArray 0 l.length).toList = srtN l := by
  have h := insertionSort_holds (lt := ltN) swo_ltN l.toArray 0 l.toArray.size (Nat.zero_le _) (Nat.le_refl _)
  have h2 := sorted_unique_holds swo_ltN (fun x y h1 h2 => by simp only [ltN, decide_eq_false_iff_not] at h1 h2; omega) l.toArray _ h.1 h.2
  simpa [srtN] using h2

theorem less64_of (x y : Nat) (w : World) : Calls Tryz.prog 173 #[.int .u64 (x : Int), .int .u64 (y : Int)] w fun e w' => e = .returned (.bool (ltN x y)) ∧ w' = w := by
  obtain ⟨B, HB⟩ : ∃ B, Hid (B = ltN x y) := ⟨_, rfl⟩
  rw [← HB.out]
  have kn : ∀ (z : Nat) W, Calls Tryz.prog 184 #[.int .u64 (z : Int)] W fun e w' => e = .returned (.bool false) ∧ w' = W := fun z W => by
    go_enter Tryz.func184, Tryz.ntmps184
    go_wp2
    go_ret
    exact ⟨by simp, rfl⟩
  have E : Hid (B = decide ((x : Int) < (y : Int))) := by show _ = _; rw [HB.out]; unfold ltN; simp
  clear HB
  go_enter Tryz.func173, Tryz.ntmps173
  go_wp2_with (go_at_call 184; refine (kn _ _).mono ?_; rintro e w' ⟨rfl, rfl⟩)
  go_ret
  exact ⟨by rw [E.out]; simp, rfl⟩

/-- What stands while it is sorted. -/
def StN (n₀ g n cap : Nat) (w wr : World) (d : Array Nat) : Prop := Ow natE 22 n₀ wr (.slice (some ⟨g, 0, none⟩) n cap) d.toList ∧ Below n₀ w wr ∧ d.size = n
theorem StN.cell {n₀ g n cap : Nat} {w wr : World} {d : Array Nat} (h : StN n₀ g n cap w wr d) {t : Nat} (ht : t < n) : wr.cell? ⟨g, t, none⟩ = some (.int .u64 (d[t]! : Nat)) ∧ wr.frozen? ⟨g, t, none⟩ = false := by
  obtain ⟨hO, hb, hs⟩ := h
  obtain ⟨g', cp, cur, e, -, -, hbk, -, -, hcell, hfro⟩ := hO.1.cells (by simp; omega)
  cases e
  have hd : d.toList[t]? = some d[t]! := by
    rw [Array.getElem?_toList, Array.getElem?_eq_getElem (by omega), getElem!_pos d t (by omega)]
  have := hcell t d[t]! 0 hd (by decide)
  rw [show t * natE.k + 0 = t from Nat.mul_one t] at this
  exact ⟨this, hfro t⟩
theorem StN.drewN {n₀ g n cap : Nat} {w wr : World} {d : Array Nat} (h : StN n₀ g n cap w wr d) (q : Nat) : StN n₀ g n cap w (wr.drewN q) d :=
  ⟨⟨h.1.1.same fun k hk => rfl, h.1.2⟩, below_drewN h.2.1 q, h.2.2⟩
theorem StN.swap {n₀ g n cap : Nat} {w wr : World} {d : Array Nat} (h : StN n₀ g n cap w wr d) {j k : Nat} (hj : j < n) (hk : k < n) (hjk : j ≠ k) : StN n₀ g n cap w ((wr.setCell ⟨g, j, none⟩ (.int .u64 (d[k]! : Nat))).setCell ⟨g, k, none⟩ (.int .u64 (d[j]! : Nat))) (swp d j k) := by
  obtain ⟨hO, hb, hs⟩ := h
  have hge := hO.2 g rfl
  have hd : ∀ t, t < n → d.toList[t]? = some d[t]! := fun t ht => by
    rw [Array.getElem?_toList, Array.getElem?_eq_getElem (by omega), getElem!_pos d t (by omega)]
  have h1 := Rk.setAt (E := natE) (j := 0) (x' := d[k]!) (u := .int .u64 (d[k]! : Nat)) hO.1 (hd j hj) (by decide) rfl
  rw [show j * natE.k + 0 = j from Nat.mul_one j] at h1
  have h2 := Rk.setAt (E := natE) (j := 0) (x' := d[j]!) (u := .int .u64 (d[j]! : Nat)) h1 (i := k) (x := d[k]!) (by rw [List.getElem?_set_ne hjk]; exact hd k hk) (by decide) rfl
  rw [show k * natE.k + 0 = k from Nat.mul_one k] at h2
  refine ⟨⟨?_, hO.2⟩, (hb.setCell (p := ⟨g, j, none⟩) hge _).setCell (p := ⟨g, k, none⟩) hge _, by rw [size_swp]; exact hs⟩
  unfold swp
  rw [Array.toList_setIfInBounds, Array.toList_setIfInBounds]
  exact h2

set_option maxHeartbeats 8000000 in
theorem insertion64_of (l : List Nat) (g cap n₀ : Nat) (w : World) (hO : Ow natE 22 n₀ w (.slice (some ⟨g, 0, none⟩) l.length cap) l) (hl : l.length ≤ 12) :
    Calls Tryz.prog 167 #[.slice (some ⟨g, 0, none⟩) l.length cap, .int .i64 0, .int .i64 (l.length : Int)] w fun e w' => e = .returned (.tuple #[]) ∧ Ow natE 22 n₀ w' (.slice (some ⟨g, 0, none⟩) l.length cap) (srtN l) ∧ Below n₀ w w' := by
  have H0 : Hid (StN n₀ g l.length cap w w l.toArray) := ⟨by simpa using hO, Below.refl _ _, by simp⟩
  obtain ⟨T, HT⟩ : ∃ T : World → Prop, Hid (T = fun w' => Ow natE 22 n₀ w' (.slice (some ⟨g, 0, none⟩) l.length cap) (srtN l) ∧ Below n₀ w w') := ⟨_, rfl⟩
  have hT : ∀ w', (Ow natE 22 n₀ w' (.slice (some ⟨g, 0, none⟩) l.length cap) (srtN l) ∧ Below n₀ w w') = T w' := fun w' => by rw [HT.out]
  simp only [hT]
  have FIN : Hid (∀ wr dk, StN n₀ g l.length cap w wr dk → dk = Sort.insertionSort ltN l.toArray 0 l.length → T wr) := fun wr dk h e => by
    rw [HT.out]
    subst e
    have := h.1
    rw [isort_srt] at this
    exact ⟨this, h.2.1⟩
  clear hT HT hO
  obtain ⟨n, hn⟩ : ∃ n, n = l.length := ⟨_, rfl⟩
  have HN : Hid (n = l.length) := hn
  rw [← hn] at H0 FIN hl ⊢
  clear hn
  obtain ⟨off, hoff⟩ : ∃ off, Hid (off = 0) := ⟨0, rfl⟩
  have hv : (Value.slice (some ⟨g, 0, none⟩) n cap) = .slice (some ⟨g, off, none⟩) n cap := by rw [hoff.out]
  rw [hv]
  clear hv
  go_enter Tryz.func167, Tryz.ntmps167
  go_wp2
  go_loopg [6] (n + 1) (fun gh s6 wr => ∃ (i : Nat) (dk : Array Nat), i + gh = n + 2 ∧ 1 ≤ i ∧ s6 = .int .i64 (i : Int) ∧ Hid (StN n₀ g n cap w wr dk) ∧ Hid (insOuter ltN 0 n i dk = insOuter ltN 0 n 1 l.toArray))
  case atStart => exact ⟨1, l.toArray, by omega, Nat.le_refl _, rfl, H0, rfl⟩
  case round =>
    obtain ⟨i, dk, hig, hi1, rfl, HS, HQ⟩ := hrel
    clear H0
    by_cases hlt : i < n
    · have hlti : (i : Int) < (n : Int) := by omega
      obtain ⟨GK, hGK⟩ : ∃ GK, GK = gk := ⟨_, rfl⟩
      have hig' : i + GK = n + 2 := by omega
      have HGK : Hid (GK = gk) := hGK
      obtain ⟨w9, hw9⟩ : ∃ w9, w9 = wr := ⟨_, rfl⟩
      subst hw9
      clear hGK
      go_wp2
      go_loopg [7] (i + 1) (fun gh s7 wr => ∃ (j : Nat) (dj : Array Nat), j < gh ∧ j ≤ i ∧ s7 = .int .i64 (j : Int) ∧ Hid (StN n₀ g n cap w wr dj) ∧ Hid (insInner ltN 0 j dj = insInner ltN 0 i dk))
      case atStart => exact ⟨i, dk, by omega, Nat.le_refl _, rfl, HS, rfl⟩
      case round =>
        obtain ⟨j, dj, hjg, hji, rfl, HS2, HI⟩ := hrel
        clear HS
        obtain ⟨G, HG⟩ : ∃ G : Nat → Nat, Hid (∀ t, G t = dj[t]!) := ⟨fun t => dj[t]!, fun _ => rfl⟩
        have hcw : ∀ t, t < n → wr.cell? ⟨g, off + t, none⟩ = some (.int .u64 (G t : Int)) := fun t ht => by
          rw [hoff.out, Nat.zero_add, HG.out]
          exact (HS2.out.cell ht).1
        have hfw : ∀ t, t < n → wr.frozen? ⟨g, off + t, none⟩ = false := fun t ht => by
          rw [hoff.out, Nat.zero_add]
          exact (HS2.out.cell ht).2
        have kl := fun x y W => less64_of x y W
        by_cases hj0 : 0 < j
        · have hj0i : (0 : Int) < (j : Int) := by omega
          have hjn : j < n := by omega
          have hjn1 : j - 1 < n := by omega
          clear FIN HN
          go_wp2
          go_quiet (first | (go_at_call 173; refine Calls.quiet_of_same (kl _ _ _)))
          go_wp2
          · have hlN : ltN (G j) (G (j - 1)) = true := by assumption
            go_region
            all_goals go_wp2
            go_roundg (gk - 1)
            case measure => omega
            case rel =>
              refine ⟨j - 1, swp dj j (j - 1), by omega, by omega, by congr 1; omega, ?_, ?_⟩
              · have h9 := (HS2.out.drewN (nq + 1)).swap (j := j) (k := j - 1) hjn hjn1 (by omega)
                rw [← HG.out, ← HG.out] at h9
                show StN _ _ _ _ _ _ _
                rw [hoff.out, Nat.zero_add, Nat.zero_add]
                exact h9
              · show _ = _
                rw [← HI.out, insInner_go ltN 0 j dj hj0 (by rw [← HG.out, ← HG.out]; exact hlN)]
          · have hlN : ltN (G j) (G (j - 1)) = false := by assumption
            go_roundg (GK - 1)
            case measure => have := HGK.out; omega
            case rel => exact ⟨i + 1, dj, by omega, by omega, by go_num, HS2.out.drewN nq, by show _ = _; rw [← HQ.out, insOuter_go _ _ _ _ _ hlt, ← HI.out, insInner_stop _ _ _ _ (Or.inr (by rw [← HG.out, ← HG.out]; exact hlN))]⟩
        · obtain rfl : j = 0 := by omega
          clear FIN HN
          go_wp2
          go_quiet (first | (go_at_call 173; refine Calls.quiet_of_same (kl _ _ _)))
          go_wp2
          go_roundg (GK - 1)
          case measure => have := HGK.out; omega
          case rel => exact ⟨i + 1, dj, by omega, by omega, by go_num, HS2.out.drewN nq, by show _ = _; rw [← HQ.out, insOuter_go _ _ _ _ _ hlt, ← HI.out, insInner_stop _ _ _ _ (Or.inl (Nat.zero_le _))]⟩
    · have hlti : ¬ (i : Int) < (n : Int) := by omega
      have E : Hid (T wr) := FIN.out wr dk HS.out (by unfold Sort.insertionSort; rw [← HQ.out, insOuter_stop _ _ _ _ _ hlt])
      clear HS HQ FIN HN
      go_wp2
      go_end0
      exact ⟨rfl, E.out⟩
end Go.Proofs.YtncoandnelgkeaaGreat

/- The library's bits.Len at small numbers. -/
namespace Go.Proofs.YtncoandnelgkeaaGreat
open Go.RowKit
set_option maxRecDepth 100000
set_option linter.unusedSimpArgs false
set_option linter.unusedVariables false
set_option maxHeartbeats 4000000 in
theorem len64_of (x : Int) (w : World) (h0 : 0 ≤ x) (h1 : x ≤ 12) : Calls Tryz.prog 177 #[.int .u64 x] w fun e w' => ∃ L, e = .returned (.int .i64 L) ∧ w' = w := by
  have h : x = 0 ∨ x = 1 ∨ x = 2 ∨ x = 3 ∨ x = 4 ∨ x = 5 ∨ x = 6 ∨ x = 7 ∨ x = 8 ∨ x = 9 ∨ x = 10 ∨ x = 11 ∨ x = 12 := by omega
  rcases h with rfl | rfl | rfl | rfl | rfl | rfl | rfl | rfl | rfl | rfl | rfl | rfl | rfl <;> (go_enter Tryz.func177, Tryz.ntmps177; go_wp2; go_ret; exact ⟨_, rfl, rfl⟩)
end Go.Proofs.YtncoandnelgkeaaGreat
namespace Go.Proofs
open Go.RowKit Go.Proofs.YtncoandnelgkeaaGreat
theorem Tryz.bits_Len (x : Int) (w : World) (h0 : 0 ≤ x) (h1 : x ≤ 12) : Calls Tryz.prog 164 #[.int .u64 x] w fun e w' => ∃ L, e = .returned (.int .i64 L) ∧ w' = w := by
  have kl := len64_of x w h0 h1
  go_enter Tryz.func164, Tryz.ntmps164
  go_wp2_with fail
  refine kl.mono ?_
  rintro e w1 ⟨L, rfl, hw⟩
  subst hw
  go_wp2
  go_ret
  exact ⟨_, rfl, rfl⟩
end Go.Proofs

/- The contract of Commit. -/
namespace Go.Proofs.YtncoandnelgkeaaGreat
open Go.RowKit Go.Sort QuorumMath
set_option maxRecDepth 100000
set_option linter.unusedSimpArgs false
set_option linter.unusedVariables false

theorem srtN_perm (l : List Nat) : (srtN l).Perm l := List.mergeSort_perm _ _
theorem srtN_len (l : List Nat) : (srtN l).length = l.length := (srtN_perm l).length_eq
theorem srtN_ris (l : List Nat) : (srtN l).Pairwise (· ≤ ·) := by
  have h := List.pairwise_mergeSort (le := fun x y : Nat => !ltN y x) (by intro a b c; simp [ltN]; omega) (by intro a b; simp [ltN]; omega) l
  exact h.imp (by intro a b; simp [ltN])
/-- What a majority has stands in the sorted row. -/
theorem best_srt {ms : List Nat} (hne : 0 < ms.length) {c : Nat} (hc : (srtN ms)[ms.length - (ms.length / 2 + 1)]? = some c) : bestFrom ms 0 ms = c := by
  have hr : (srtN ms).reverse.Pairwise (fun a b => b ≤ a) := by
    rw [List.pairwise_reverse]
    exact srtN_ris ms
  have hl := srtN_len ms
  have h1 := best_sorted hr (by rw [List.length_reverse, hl]; exact hne)
  have hp : (srtN ms).reverse.Perm ms := (List.reverse_perm _).trans (srtN_perm ms)
  have h2 := best_one (bestFrom_best ms) (best_perm hp h1)
  rw [h2, List.getElem_reverse]
  obtain ⟨h3, h4⟩ := List.getElem?_eq_some_iff.1 hc
  rw [← h4]
  congr 1
  rw [List.length_reverse, hl]
  omega

set_option maxHeartbeats 2000000 in
theorem pdq64_of (l : List Nat) (g cap n₀ : Nat) (lim : Int) (w : World) (hO : Ow natE 22 n₀ w (.slice (some ⟨g, 0, none⟩) l.length cap) l) (hl : l.length ≤ 12) :
    Calls Tryz.prog 163 #[.slice (some ⟨g, 0, none⟩) l.length cap, .int .i64 0, .int .i64 (l.length : Int), .int .i64 lim] w fun e w' => e = .returned (.tuple #[]) ∧ Ow natE 22 n₀ w' (.slice (some ⟨g, 0, none⟩) l.length cap) (srtN l) ∧ Below n₀ w w' := by
  have ki := insertion64_of l g cap n₀ w hO hl
  have hli : (l.length : Int) ≤ 12 := by omega
  clear hO
  go_enter Tryz.func163, Tryz.ntmps163
  go_wp2
  go_loopg [1, 2] 1 (fun gh s1 s2 wr => s1 = .int .i64 0 ∧ s2 = .int .i64 (l.length : Int) ∧ wr = w)
  case atStart => exact ⟨rfl, rfl, rfl⟩
  case round =>
    obtain ⟨rfl, rfl, rfl⟩ := hrel
    go_wp2_with fail
    refine ki.mono ?_
    rintro e w1 ⟨rfl, h1, h2⟩
    clear ki
    have H1 : Hid _ := And.intro h1 h2
    clear h1 h2
    go_wp2
    refine bodyPost_ret (results_none rfl _ _ _) rfl ?_
    exact ⟨rfl, H1.out⟩

theorem sort64_of (l : List Nat) (g cap n₀ : Nat) (w : World) (hO : Ow natE 22 n₀ w (.slice (some ⟨g, 0, none⟩) l.length cap) l) (hl : l.length ≤ 12) :
    Calls Tryz.prog 154 #[.slice (some ⟨g, 0, none⟩) l.length cap] w fun e w' => e = .returned (.tuple #[]) ∧ Ow natE 22 n₀ w' (.slice (some ⟨g, 0, none⟩) l.length cap) (srtN l) ∧ Below n₀ w w' := by
  have kp := fun lim => pdq64_of l g cap n₀ lim w hO hl
  have kb := Tryz.bits_Len (l.length : Int) w (by omega) (by omega)
  clear hO
  go_enter Tryz.func154, Tryz.ntmps154
  go_wp2_with fail
  refine kb.mono ?_
  rintro e w1 ⟨L, rfl, hw1⟩
  subst hw1
  go_wp2_with fail
  refine (kp _).mono ?_
  rintro e w2 ⟨rfl, h1, h2⟩
  have H1 : Hid _ := And.intro h1 h2
  clear h1 h2 kp kb
  go_wp2
  go_end0
  exact ⟨rfl, H1.out⟩

set_option maxHeartbeats 4000000 in
theorem commit_of (v : List Int) (vv : Value) (ps : List Pr) (pv : Value) (w : World) (hV : Rd intE w vv v) (hP : Rd peerE w pv ps) (hlv : v.length ≤ 1000000000000000) (hlp : ps.length ≤ 1000000) : Calls Tryz.prog 140 #[vv, pv] w fun e w' => e = .returned (.int .u64 (comM v ps : Nat)) ∧ Below w.heap.size w w' := by
  obtain ⟨C, HC⟩ : ∃ C, Hid (C = comM v ps) := ⟨_, rfl⟩
  rw [← HC.out]
  have kc := check_of v vv w hV hlv
  have km := fun x W (hW : Below w.heap.size w W) => matchOf_of ps pv x W (hP.below hW) hlp
  obtain ⟨va, vc, rfl, -, -⟩ := hV.shape
  obtain ⟨pa, pc, rfl, -, -⟩ := hP.shape
  clear hP
  cases hm : votB v with
  | false =>
    rw [hm] at kc
    have E : Hid (C = 0) := by show _ = _; rw [HC.out]; unfold comM; rw [hm]; rfl
    clear HC hm km hV
    go_enter Tryz.func140, Tryz.ntmps140
    go_wp2_with fail
    refine kc.mono ?_
    rintro e w1 ⟨rfl, hw1⟩
    subst hw1
    go_wp2
    go_ret
    exact ⟨by rw [E.out]; rfl, Below.refl _ _⟩
  | true =>
    rw [hm] at kc
    have hvv := votB_iff.1 hm
    have hl1 := hvv.1
    have hl7 := hvv.2.1
    have HC1 : Hid (C = bestFrom (v.map (mOf ps)) 0 (v.map (mOf ps))) := by show _ = _; rw [HC.out]; unfold comM; rw [hm]; rfl
    clear HC hm hvv
    go_enter Tryz.func140, Tryz.ntmps140
    go_wp2_with fail
    refine kc.mono ?_
    rintro e w1 ⟨rfl, hw1⟩
    subst hw1
    clear kc
    have hO0 := Ow.nil natE 22 w1.heap.size w1
    go_wp2
    obtain ⟨w, hw⟩ : ∃ w, w = w1 := ⟨_, rfl⟩
    subst hw
    go_loopg [5, 13] v.length (fun gh s5 s13 wr => ∃ (i : Nat) (st : Value), i + gh = v.length ∧ s13 = .int .i64 (i : Int) ∧ st = s5 ∧ Ow natE 22 w.heap.size wr st ((v.take i).map (mOf ps)) ∧ Below w.heap.size w wr)
    case atStart => exact ⟨0, _, by simp, rfl, rfl, hO0, Below.refl _ _⟩
    case round =>
      obtain ⟨i, st, hig, rfl, rfl, hO, hb⟩ := hrel
      clear hO0
      by_cases hlt : i < v.length
      · have hlti : (i : Int) < (v.length : Int) := by omega
        have hx : v[i]? = some v[i] := List.getElem?_eq_getElem hlt
        obtain ⟨x, hxx⟩ : ∃ x, x = v[i] := ⟨_, rfl⟩
        rw [← hxx] at hx
        clear hxx
        obtain ⟨b, off, rfl, c⟩ := rdi_at hV hx
        have c0 := c wr hb
        have km1 := km x wr hb
        have HS : Hid ((v.take (i + 1)).map (mOf ps) = (v.take i).map (mOf ps) ++ [mOf ps x]) := by show _ = _; rw [take_succ_get hx, List.map_append]; rfl
        have hml : ((v.take i).map (mOf ps)).length ≤ 1000 := by rw [List.length_map, List.length_take]; omega
        obtain ⟨sa, sc, hst, -⟩ := hO.1.shape
        generalize (v.take i).map (mOf ps) = L at *
        generalize mOf ps x = M at *
        subst hst
        clear c hx hV km HC1
        go_wp2_with fail
        refine km1.mono ?_
        rintro e w2 ⟨rfl, hb2⟩
        have hO2 := hO.below hb2
        have hb02 := hb.trans (hb2.mono hb.size)
        have hrunH : Hid _ := push_nat M hO2.1 (by omega)
        clear km1 hO hb2
        go_wp2_with (at_builtin; refine wp_by rfl _ _ _ rfl _ _ rfl rfl hrunH.out ?_)
        intro v6 w6 hp6
        obtain ⟨hO3, hb3⟩ := hO2.push hb02.size hp6
        rw [← HS.out] at hO3
        clear hO2 hrunH hp6 HS
        go_wp2
        go_roundg (gk - 1)
        case measure => omega
        case rel => exact ⟨i + 1, v6, by omega, by go_num, rfl, hO3, hb02.trans hb3⟩
      · have hlti : ¬ (i : Int) < (v.length : Int) := by omega
        obtain rfl : v.length = i := by omega
        rw [List.take_length] at hO
        obtain ⟨ms, hms⟩ : ∃ ms, ms = v.map (mOf ps) := ⟨_, rfl⟩
        have hmsl : ms.length = v.length := by rw [hms, List.length_map]
        rw [← hms] at HC1 hO
        obtain ⟨g, cp, cur, rfl, hle, -⟩ := hO.1.cells (by omega)
        have ks := sort64_of ms g cp w.heap.size wr hO (by omega)
        have kn := fun W => need_of (ms.length : Int) W (by omega)
        have hlen1 : 1 ≤ ms.length := by omega
        have hlen7 : ms.length ≤ 7 := by omega
        obtain ⟨c, hc⟩ : ∃ c, (srtN ms)[ms.length - (ms.length / 2 + 1)]? = some c := ⟨_, List.getElem?_eq_getElem (by rw [srtN_len]; omega)⟩
        have E : Hid (C = c) := by show _ = _; rw [HC1.out]; exact best_srt (by omega) hc
        have hsl := srtN_len ms
        have hnd : needM (ms.length : Int) = ((ms.length / 2 + 1 : Nat) : Int) := by unfold needM; rw [if_neg (by omega)]; omega
        rw [hnd] at kn
        obtain ⟨nd, hnd2⟩ : ∃ nd, nd = ms.length / 2 + 1 := ⟨_, rfl⟩
        rw [← hnd2] at kn hc
        have hndl : nd ≤ ms.length := by omega
        have hnd1 : 1 ≤ nd := by omega
        clear hnd hnd2 HC1 hmsl hms hV km hO
        generalize hLL : ms.length = m at *
        clear hLL
        go_wp2_with fail
        refine ks.mono ?_
        rintro e w2 ⟨rfl, hO2, hb2⟩
        have hb02 := hb.trans hb2
        obtain ⟨g', cp', cur', ev, -, -, -, -, -, hcell, -⟩ := hO2.1.cells (by omega)
        have e1 : g' = g := by cases ev; rfl
        subst e1
        have c0 := hcell (m - nd) c 0 hc (by decide)
        rw [show (m - nd) * natE.k + 0 = m - nd from Nat.mul_one _] at c0
        have c0' : w2.cell? ⟨g', m - nd, none⟩ = some (.int .u64 (c : Int)) := c0
        clear ev hcell hO2 ks c0 hc hb2
        go_wp2_with fail
        refine (kn _).mono ?_
        rintro e w3 ⟨rfl, hw3⟩
        subst hw3
        clear kn
        have i1 : (nd : Int) ≤ (m : Int) := by omega
        have i2 : ((m : Int) - (nd : Int)).toNat = m - nd := by omega
        have i3 : (m : Int) - (nd : Int) < (m : Int) := by omega
        go_wp2
        go_ret
        exact ⟨by rw [E.out]; rfl, hb02⟩
end Go.Proofs.YtncoandnelgkeaaGreat

