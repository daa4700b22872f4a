import Derived.Test.YtgfoogeiancecaaGreatDoorHw07
import Derived.Test.YtgfoogeiancecaaGreatDoorHw09
import Derived.OwnWalk
import Derived.Test.YtgfoogeiancecaaGreatDoorHw12
/- The contracts of the program's own goesOn and ends: where a frame's body begins and ends, or why there is none; what lay in memory before stays as it was. -/
namespace Go.Proofs.YtgfoogeiancecaaGreatDoor.Fr
open Go.RowKit WireMath FrameMath
set_option maxRecDepth 100000
set_option linter.unusedSimpArgs false

theorem goesOn_of (n₀ : Nat) (l : List Nat) (v : Value) (w : World) (hB : Bs n₀ w v l) :
    Calls Tryz.prog 143 #[v] w fun e w' => e = .returned (.bool (l.all fun c => decide (128 ≤ c))) ∧ w' = w := by
  obtain ⟨ao, cap, rfl, h2, h3, h4, h5⟩ := id hB
  have hm : l.length ≤ 9223372036854775807 := by unfold maxLen at h3; omega
  go_enter Tryz.func143, Tryz.ntmps143
  go_wp2
  go_loopg [7] l.length (fun g s7 wr => ∃ i : Nat, i + g = l.length ∧ s7 = .int .i64 (i : Int) ∧ Hid (∀ j c, j < i → l[j]? = some c → 128 ≤ c) ∧ wr = w)
  case atStart => exact ⟨0, by simp, rfl, fun _ _ h => by omega, rfl⟩
  case round =>
    obtain ⟨i, hi, rfl, E, rfl⟩ := hrel
    by_cases hlt : i < l.length
    · obtain ⟨b, off, rfl, hb, hc⟩ := h5 (by rintro rfl; simp at hlt)
      have hg : l[i]? = some l[i] := List.getElem?_eq_getElem hlt
      have hcell := hc i l[i] hg
      have hlti : (i : Int) < (l.length : Int) := by omega
      by_cases h128 : l[i] < 128
      · have E' : Hid ((l.all fun c => decide (128 ≤ c)) = false) := by
          show _ = _
          rw [Bool.eq_false_iff]
          intro h
          have := List.all_eq_true.1 h l[i] (List.getElem_mem hlt)
          simp only [decide_eq_true_eq] at this
          omega
        generalize l[i] = c at hcell h128
        have q : (c : Int) < 128 := by omega
        clear E hc h5 hB hg
        go_wp2
        go_ret
        exact ⟨by rw [E'.out]; rfl, rfl⟩
      · have E' : Hid (∀ j c, j < i + 1 → l[j]? = some c → 128 ≤ c) := by
          intro j c hj hjc
          by_cases hji : j = i
          · subst hji
            rw [hg] at hjc
            cases hjc
            omega
          · exact E.out j c (by omega) hjc
        generalize l[i] = c at hcell h128
        have q : ¬ (c : Int) < 128 := by omega
        clear E hc h5 hB hg
        go_wp2
        go_roundg (gk - 1)
        case measure => omega
        case rel => exact ⟨i + 1, by omega, by go_num, E', rfl⟩
    · have hlti : ¬ (i : Int) < (l.length : Int) := by omega
      have E' : Hid ((l.all fun c => decide (128 ≤ c)) = true) := by
        show _ = _
        rw [List.all_eq_true]
        intro x hx
        obtain ⟨j, hj, rfl⟩ := List.getElem_of_mem hx
        simpa using E.out j l[j] (by omega) (List.getElem?_eq_getElem hj)
      clear E h5 hB
      go_wp2
      go_ret
      exact ⟨by rw [E'.out]; rfl, rfl⟩
theorem Bs.took {n : Nat} {w : World} {l : List Nat} {ao : Option Addr} {len cap k : Nat} (h : Bs n w (.slice ao len cap) l) (hk : k ≤ l.length) : Bs n w (.slice ao k cap) (l.take k) := by
  obtain ⟨ao', cp, e0, h2, h3, h4, h5⟩ := h
  cases e0
  have hl : (l.take k).length = k := by rw [List.length_take]; omega
  refine ⟨ao, cap, by rw [hl], by rw [hl]; omega, h3, h4, fun hne => ?_⟩
  obtain ⟨b, off, e1, e2, e3⟩ := h5 (by rintro rfl; simp at hne)
  refine ⟨b, off, e1, e2, fun j c hj => e3 j c ?_⟩
  rw [List.getElem?_take] at hj
  split at hj
  · exact hj
  · cases hj

theorem ends_gap (n₀ : Nat) (l : List Nat) (v : Value) (w : World) (hB : Bs n₀ w v l) (h3 : l.length < 3) (ha : (l.all fun c => decide (128 ≤ c)) = true) :
    Calls Tryz.prog 118 #[v] w fun e w' => e = .returned (.tuple #[.int .i64 0, .int .i64 0, .int .i64 12]) ∧ w' = w := by
  have hg := goesOn_of n₀ l v w hB
  rw [ha] at hg
  obtain ⟨ao, cap, rfl, h2, h3', h4, -⟩ := id hB
  have h3i : (l.length : Int) < 3 := by omega
  have hm : min (l.length : Int) 3 = (l.length : Int) := by omega
  have hcap : (cap : Int) ≤ 9223372036854775807 := by unfold maxLen at h3'; omega
  have hlc : (l.length : Int) ≤ (cap : Int) := by omega
  clear hB
  go_enter Tryz.func118, Tryz.ntmps118
  go_wp2_with fail
  refine hg.mono ?_
  rintro e wx ⟨rfl, hwx⟩
  subst hwx
  go_wp2
  go_ret3
  exact ⟨rfl, rfl⟩

theorem src_all (l : List Nat) : src l 0 0 = l := rfl

/-- The first three bytes' slice. -/
theorem first3 {n₀ : Nat} {l : List Nat} {ao : Option Addr} {cap : Nat} {w : World} (hB : Bs n₀ w (.slice ao l.length cap) l) : Bs n₀ w (.slice ao (l.take 3).length cap) (l.take 3) ∧ ((l.take 3).length : Int) = min (l.length : Int) 3 := by
  refine ⟨?_, by rw [List.length_take]; omega⟩
  have := Bs.took hB (k := (l.take 3).length) (by rw [List.length_take]; omega)
  rw [show l.take (l.take 3).length = l.take 3 by
    rw [List.length_take, ← List.take_take, List.take_of_length_le (Nat.le_refl l.length)]] at this
  exact this

theorem nuA_le {l : List Nat} {m : Int} (hl : ∀ c ∈ l, c < 256) : nuA l 0 0 m ≤ l.length := by
  unfold nuA
  rw [src_all]
  cases hr : rd 10 0 0 l with
  | none => exact Nat.zero_le _
  | some x =>
    have := (rd_parts (n := x.1) (k := x.2) hl hr).2.2.2
    simp only
    split <;> omega
theorem nuN_le {l : List Nat} : nuN l 0 0 1048576 ≤ 1048576 := by
  unfold nuN
  split
  · omega
  · split <;> omega

theorem Rd.bad {w : World} {q : Nat} {l : List Nat} {a b : Nat} (h : Rd w q l a b) : w.cell? ⟨q, 2, none⟩ = some (.int .i64 (b : Int)) := by
  obtain ⟨sv, h1, _⟩ := h
  rw [cells_of_block h1]; rfl

set_option maxHeartbeats 2000000 in
theorem ends_some (n₀ : Nat) (l : List Nat) (v : Value) (w : World) (hB : Bs n₀ w v l) (hn₀ : n₀ ≤ w.heap.size) (hl : ∀ c ∈ l, c < 256) (hno : ¬ (l.length < 3 ∧ (l.all fun c => decide (128 ≤ c)) = true)) :
    Calls Tryz.prog 118 #[v] w fun e w' => e = .returned (if nuE (l.take 3) 0 0 1048576 ≠ 0 ∨ nuN (l.take 3) 0 0 1048576 < 5 then .tuple #[.int .i64 0, .int .i64 0, .int .i64 5] else .tuple #[.int .i64 (nuA (l.take 3) 0 0 1048576 : Int), .int .i64 ((nuA (l.take 3) 0 0 1048576 + nuN (l.take 3) 0 0 1048576 : Nat) : Int), .int .i64 0]) ∧ Below w.heap.size w w' := by
  obtain ⟨ao, cap, rfl, h2, h3', h4, -⟩ := id hB
  obtain ⟨hB3, hm⟩ := first3 hB
  have hg := goesOn_of n₀ _ _ w hB
  have hl3 : ∀ c ∈ l.take 3, c < 256 := fun c hc => hl c (List.mem_of_mem_take hc)
  have hr := read_of n₀ _ _ w hB3 hn₀ (by rw [List.length_take]; omega)
  have hl33 : (l.take 3).length ≤ 3 := by rw [List.length_take]; omega
  have hnum : ∀ q W, Rd W q (l.take 3) 0 0 → Calls Tryz.prog 144 #[.pointer (some ⟨q, 0, none⟩), .int .i64 1048576] W _ := fun q W h => number_m q (l.take 3) 0 0 1048576 W h hl3 (by decide)
  have hA : nuA (l.take 3) 0 0 1048576 ≤ (l.take 3).length := nuA_le hl3
  have hN : nuN (l.take 3) 0 0 1048576 ≤ 1048576 := nuN_le
  have hcap : (cap : Int) ≤ 9223372036854775807 := by unfold maxLen at h3'; omega
  generalize nuN (l.take 3) 0 0 1048576 = N at *
  generalize nuA (l.take 3) 0 0 1048576 = A at *
  generalize nuE (l.take 3) 0 0 1048576 = E at *
  have hR : ∃ R, Hid (R = if E ≠ 0 ∨ N < 5 then Value.tuple #[.int .i64 0, .int .i64 0, .int .i64 5] else .tuple #[.int .i64 (A : Int), .int .i64 ((A + N : Nat) : Int), .int .i64 0]) := ⟨_, rfl⟩
  obtain ⟨R, HR⟩ := hR
  rw [← HR.out]
  clear hB hB3 hl3 hl hm
  by_cases h3 : l.length < 3
  · have hall : (l.all fun c => decide (128 ≤ c)) = false := by
      rw [Bool.eq_false_iff]
      exact fun ha => hno ⟨h3, ha⟩
    rw [hall] at hg
    rw [List.take_of_length_le (by omega)] at hr hA hnum
    have h3i : (l.length : Int) < 3 := by omega
    have hmi : min (l.length : Int) 3 = (l.length : Int) := by omega
    have hlc : (l.length : Int) ≤ (cap : Int) := by omega
    go_enter Tryz.func118, Tryz.ntmps118
    go_wp2_with fail
    refine hg.mono ?_
    rintro e wx ⟨rfl, hwx⟩
    rw [hwx]
    clear hwx wx
    go_wp2_with fail
    refine hr.mono ?_
    rintro e w1 ⟨q, rfl, hq, h1, hb1⟩
    go_wp2_with fail
    refine (hnum q w1 h1).mono ?_
    rintro e w2 ⟨rfl, h2', k2⟩
    have hbel : Below w.heap.size w w2 := hb1.trans (k2.below hq hb1.size)
    have c2 := h2'.bad
    clear hnum hr h1 k2 hb1
    by_cases hE : E = 0
    · subst hE
      by_cases hN5 : N < 5
      · have hNi : (N : Int) < 5 := by omega
        go_wp2_with (go_at_call 145; refine (err_of q 0 _ c2).mono ?_; rintro e wx ⟨rfl, hwx⟩; subst hwx)
        go_ret3
        exact ⟨by rw [HR.out, if_pos (.inr hN5)]; rfl, hbel⟩
      · have hNi : ¬ (N : Int) < 5 := by omega
        have hL := left_of q _ A 0 _ h2'
        go_wp2_with (go_at_call 145; refine (err_of q 0 _ c2).mono ?_; rintro e wx ⟨rfl, hwx⟩; subst hwx)
        refine hL.mono ?_
        rintro e w3 ⟨rfl, hb3⟩
        go_wp2
        go_ret3
        refine ⟨?_, hbel.trans (hb3.mono hbel.size)⟩
        have e1 : (l.length : Int) - ((l.length - A : Nat) : Int) = (A : Int) := by omega
        have e2 : (l.length : Int) - ((l.length - A : Nat) : Int) + (N : Int) = ((A + N : Nat) : Int) := by omega
        rw [HR.out, if_neg (by omega), ← e2, ← e1]
        rfl
    · have hEi : ¬ (E : Int) = 0 := by omega
      have hEj : ((E : Int) != 0) = true := by simp; omega
      go_wp2_with (go_at_call 145; refine (err_of q E _ c2).mono ?_; rintro e wx ⟨rfl, hwx⟩; subst hwx)
      go_ret3
      exact ⟨by rw [HR.out, if_pos (.inl hE)]; rfl, hbel⟩
  by_cases h33 : l.length = 3
  · have hlen3 : (l.take 3).length = 3 := by rw [List.length_take]; omega
    rw [hlen3] at hr hA
    have hlc : (3 : Int) ≤ (cap : Int) := by omega
    have hlc2 : 3 ≤ cap := by omega
    clear hg
    go_enter Tryz.func118, Tryz.ntmps118
    go_wp2_with fail
    refine hr.mono ?_
    rintro e w1 ⟨q, rfl, hq, h1, hb1⟩
    go_wp2_with fail
    refine (hnum q w1 h1).mono ?_
    rintro e w2 ⟨rfl, h2', k2⟩
    have hbel : Below w.heap.size w w2 := hb1.trans (k2.below hq hb1.size)
    have c2 := h2'.bad
    clear hnum hr h1 k2 hb1
    by_cases hE : E = 0
    · subst hE
      by_cases hN5 : N < 5
      · have hNi : (N : Int) < 5 := by omega
        go_wp2_with (go_at_call 145; refine (err_of q 0 _ c2).mono ?_; rintro e wx ⟨rfl, hwx⟩; subst hwx)
        go_ret3
        exact ⟨by rw [HR.out, if_pos (.inr hN5)]; rfl, hbel⟩
      · have hNi : ¬ (N : Int) < 5 := by omega
        have hL := left_of q _ A 0 _ h2'
        go_wp2_with (go_at_call 145; refine (err_of q 0 _ c2).mono ?_; rintro e wx ⟨rfl, hwx⟩; subst hwx)
        refine hL.mono ?_
        rintro e w3 ⟨rfl, hb3⟩
        go_wp2
        go_ret3
        refine ⟨?_, hbel.trans (hb3.mono hbel.size)⟩
        have e1 : (3 : Int) - ((3 - A : Nat) : Int) = (A : Int) := by omega
        have e2 : (3 : Int) - ((3 - A : Nat) : Int) + (N : Int) = ((A + N : Nat) : Int) := by omega
        rw [HR.out, if_neg (by omega), ← e2, ← e1]
        rfl
    · have hEi : ¬ (E : Int) = 0 := by omega
      have hEj : ((E : Int) != 0) = true := by simp; omega
      go_wp2_with (go_at_call 145; refine (err_of q E _ c2).mono ?_; rintro e wx ⟨rfl, hwx⟩; subst hwx)
      go_ret3
      exact ⟨by rw [HR.out, if_pos (.inl hE)]; rfl, hbel⟩
  · have hlen3 : (l.take 3).length = 3 := by rw [List.length_take]; omega
    rw [hlen3] at hr hA
    have h3i : ¬ (l.length : Int) < 3 := by omega
    have h3j : ¬ (l.length : Int) ≤ 3 := by omega
    have h3k : (3 : Int) < (l.length : Int) := by omega
    have hmi : min (l.length : Int) 3 = 3 := by omega
    have hlc : (3 : Int) ≤ (cap : Int) := by omega
    have hlc2 : 3 ≤ cap := by omega
    clear hg
    go_enter Tryz.func118, Tryz.ntmps118
    go_wp2_with fail
    refine hr.mono ?_
    rintro e w1 ⟨q, rfl, hq, h1, hb1⟩
    go_wp2_with fail
    refine (hnum q w1 h1).mono ?_
    rintro e w2 ⟨rfl, h2', k2⟩
    have hbel : Below w.heap.size w w2 := hb1.trans (k2.below hq hb1.size)
    have c2 := h2'.bad
    clear hnum hr h1 k2 hb1
    by_cases hE : E = 0
    · subst hE
      by_cases hN5 : N < 5
      · have hNi : (N : Int) < 5 := by omega
        go_wp2_with (go_at_call 145; refine (err_of q 0 _ c2).mono ?_; rintro e wx ⟨rfl, hwx⟩; subst hwx)
        go_ret3
        exact ⟨by rw [HR.out, if_pos (.inr hN5)]; rfl, hbel⟩
      · have hNi : ¬ (N : Int) < 5 := by omega
        have hL := left_of q _ A 0 _ h2'
        go_wp2_with (go_at_call 145; refine (err_of q 0 _ c2).mono ?_; rintro e wx ⟨rfl, hwx⟩; subst hwx)
        refine hL.mono ?_
        rintro e w3 ⟨rfl, hb3⟩
        go_wp2
        go_ret3
        refine ⟨?_, hbel.trans (hb3.mono hbel.size)⟩
        have e1 : (3 : Int) - ((3 - A : Nat) : Int) = (A : Int) := by omega
        have e2 : (3 : Int) - ((3 - A : Nat) : Int) + (N : Int) = ((A + N : Nat) : Int) := by omega
        rw [HR.out, if_neg (by omega), ← e2, ← e1]
        rfl
    · have hEi : ¬ (E : Int) = 0 := by omega
      have hEj : ((E : Int) != 0) = true := by simp; omega
      go_wp2_with (go_at_call 145; refine (err_of q E _ c2).mono ?_; rintro e wx ⟨rfl, hwx⟩; subst hwx)
      go_ret3
      exact ⟨by rw [HR.out, if_pos (.inl hE)]; rfl, hbel⟩
end Go.Proofs.YtgfoogeiancecaaGreatDoor.Fr

/- The contract of the program's Next: the frame at the beginning of bytes, its bytes in memory of the call's own, or why there is none; what lay in memory before stays as it was. -/
namespace Go.Proofs.YtgfoogeiancecaaGreatDoor.Fr
open Go.RowKit WireMath CrcMath FrameMath
set_option maxRecDepth 100000
set_option linter.unusedSimpArgs false

theorem results_tmp4 {fn : Func} {t u v x : Tmp} (h : fn.results = #[.tmp t, .tmp u, .tmp v, .tmp x]) (tmps : Array Value) (P : Program) (w : World) :
    (results fn tmps).run P w = .ok (.tuple #[tmps.getD t undef, tmps.getD u undef, tmps.getD v undef, tmps.getD x undef]) w := by
  simp [results, h]

/-- What Next tells, the bytes at v. -/
def nxV (x : Nx) (v : Value) : Value :=
  match x with
  | .ok (k, _, n) => .tuple #[.int .u8 (k : Int), v, .int .i64 (n : Int), .int .i64 0]
  | .error e => .tuple #[.int .u8 0, v, .int .i64 0, .int .i64 (e : Int)]
def nxD : Nx → List Nat
  | .ok (_, d, _) => d
  | .error _ => []

theorem Bs.cut {n₀ : Nat} {w : World} {l : List Nat} {b off len cap : Nat} (h : Bs n₀ w (.slice (some ⟨b, off, none⟩) len cap) l) (k s : Nat) (hk : k + s ≤ l.length) (c : Nat) (hc : s ≤ c) (hcm : c ≤ maxLen) :
    Bs n₀ w (.slice (some ⟨b, off + k, none⟩) s c) ((l.drop k).take s) := by
  obtain ⟨ao, cap', h1, h2, h3, h4, h5⟩ := h
  cases h1
  have hlen : ((l.drop k).take s).length = s := by rw [List.length_take, List.length_drop]; omega
  refine ⟨_, _, by rw [hlen], by rw [hlen]; exact hc, hcm, (fun h => by cases h), fun hne => ?_⟩
  have hne' : l ≠ [] := by rintro rfl; simp at hne
  obtain ⟨b', off', e1, e2, e3⟩ := h5 hne'
  cases e1
  refine ⟨b, off + k, rfl, e2, fun j c hj => ?_⟩
  rw [List.getElem?_take] at hj
  split at hj
  · rw [List.getElem?_drop] at hj
    rw [Nat.add_assoc]
    exact e3 (k + j) c hj
  · cases hj

theorem Own.at {n₀ : Nat} {w : World} {v : Value} {m : List Nat} (h : Own n₀ w v m) (hm : m ≠ []) : ∃ g cap, v = .slice (some ⟨g, 0, none⟩) m.length cap ∧ n₀ ≤ g ∧ g < w.heap.size ∧ m.length ≤ cap ∧ cap ≤ maxLen := by
  obtain ⟨h1, ⟨h2, h3⟩ | ⟨g, cap, cur, h2, hg, hb, hle, hmx, _⟩⟩ := h
  · exact absurd (List.eq_nil_of_length_eq_zero h3) hm
  · exact ⟨g, cap, h2, hg, (Array.getElem?_eq_some_iff.1 hb).1, hle, hmx⟩
theorem Own.fresh {n₀ : Nat} {w : World} {v : Value} {m : List Nat} (h : Own n₀ w v m) : ∀ k, v.ownBlock = some k → n₀ ≤ k ∧ k < w.heap.size := fun k hk => World.ownsRow.lt h k hk

set_option maxHeartbeats 2000000 in
theorem next_err (n₀ : Nat) (l : List Nat) (v : Value) (w : World) (e : Nat) (he : e ≠ 0) (hB : Bs n₀ w v l)
    (hE : Calls Tryz.prog 118 #[v] w fun e' w' => e' = .returned (.tuple #[.int .i64 0, .int .i64 0, .int .i64 (e : Int)]) ∧ Below w.heap.size w w') :
    Calls Tryz.prog 100 #[v] w fun e' w' => e' = .returned (nxV (.error e) (.slice none 0 0)) ∧ Below w.heap.size w w' := by
  obtain ⟨ao, cap, rfl, -⟩ := hB
  have hei : ¬ (e : Int) = 0 := by omega
  have hej : ((e : Int) != 0) = true := by simp; omega
  go_enter Tryz.func100, Tryz.ntmps100
  go_wp2_with fail
  refine hE.mono ?_
  rintro e' w1 ⟨rfl, hb⟩
  go_wp2
  (try simp only [Exit.inBlock, Exit.then])
  refine bodyPost_ret (results_tmp4 rfl _ _ _) rfl ?_
  exact ⟨rfl, hb⟩

set_option maxHeartbeats 2000000 in
theorem next_short (n₀ : Nat) (l : List Nat) (v : Value) (w : World) (k s : Nat) (hB : Bs n₀ w v l) (hlt : l.length < k + s)
    (hE : Calls Tryz.prog 118 #[v] w fun e' w' => e' = .returned (.tuple #[.int .i64 (k : Int), .int .i64 ((k + s : Nat) : Int), .int .i64 0]) ∧ Below w.heap.size w w') :
    Calls Tryz.prog 100 #[v] w fun e' w' => e' = .returned (nxV (.error 12) (.slice none 0 0)) ∧ Below w.heap.size w w' := by
  obtain ⟨ao, cap, rfl, -⟩ := hB
  have hi : (l.length : Int) < ((k + s : Nat) : Int) := by omega
  generalize k + s = m at *
  go_enter Tryz.func100, Tryz.ntmps100
  go_wp2_with fail
  refine hE.mono ?_
  rintro e' w1 ⟨rfl, hb⟩
  go_wp2
  (try simp only [Exit.inBlock, Exit.then])
  refine bodyPost_ret (results_tmp4 rfl _ _ _) rfl ?_
  exact ⟨rfl, hb⟩

set_option maxHeartbeats 2000000 in
theorem next_text (n₀ : Nat) (l : List Nat) (b off cap : Nat) (w : World) (k s : Nat) (hT : Tab w) (hB : Bs n₀ w (.slice (some ⟨b, off, none⟩) l.length cap) l) (hl : ∀ c ∈ l, c < 256) (hn₀ : n₀ ≤ w.heap.size) (hlt : k + s ≤ l.length) (h5 : 5 ≤ s) (h20 : s ≤ 1048576) (hs : ¬ ((l.drop k).take s).take 4 = be4 (crcSum (((l.drop k).take s).drop 4)))
    (hE : Calls Tryz.prog 118 #[.slice (some ⟨b, off, none⟩) l.length cap] w fun e' w' => e' = .returned (.tuple #[.int .i64 (k : Int), .int .i64 ((k + s : Nat) : Int), .int .i64 0]) ∧ Below w.heap.size w w') :
    Calls Tryz.prog 100 #[.slice (some ⟨b, off, none⟩) l.length cap] w fun e' w' => e' = .returned (nxV (.error 5) (.slice none 0 0)) ∧ Below w.heap.size w w' := by
  have hcl : l.length ≤ cap ∧ cap ≤ maxLen := by obtain ⟨_, _, h1, h2, h3, _⟩ := id hB; cases h1; exact ⟨h2, h3⟩
  have hcm : (cap : Int) ≤ 9223372036854775807 := by unfold maxLen at hcl; omega
  have hcut : ∀ w', Below w.heap.size w w' → Bs n₀ w' (.slice (some ⟨b, off + k, none⟩) s s) ((l.drop k).take s) := fun w' hb => (hB.below (hb.mono hn₀)).cut k s hlt s (Nat.le_refl _) (by unfold maxLen; omega)
  have hlc : ∀ c ∈ (l.drop k).take s, c < 256 := fun c hc => hl c (List.mem_of_mem_drop (List.mem_of_mem_take hc))
  have hlen : ((l.drop k).take s).length = s := by rw [List.length_take, List.length_drop]; omega
  have ho : ∀ w', Below w.heap.size w w' → Calls Tryz.prog 119 #[.slice (some ⟨b, off + k, none⟩) s s] w' fun e w'' => e = .returned (.tuple #[.slice none 0 0, .bool false]) ∧ ∃ j, w'' = w'.drewN j := fun w' hb =>
    open_long n₀ _ _ w' (hT.below' hb (Nat.le_refl _)) (hcut w' hb) hlc (by omega) (by omega) hs
  have h1 : ¬ (l.length : Int) < ((k + s : Nat) : Int) := by omega
  have h2 : (k : Int) ≤ ((k + s : Nat) : Int) := by omega
  have h3 : ((k + s : Nat) : Int) ≤ (cap : Int) := by omega
  have h4 : k ≤ k + s := by omega
  have h6 : k + s ≤ cap := by omega
  have h7 : k + s - k = s := by omega
  have h8 : ¬ s = 0 := by omega
  clear hB hcut hs hlc
  generalize k + s = m at *
  go_enter Tryz.func100, Tryz.ntmps100
  go_wp2_with fail
  refine hE.mono ?_
  rintro e' w1 ⟨rfl, hb⟩
  go_wp2_with fail
  refine (ho w1 hb).mono ?_
  rintro e' w2 ⟨rfl, j, rfl⟩
  go_wp2
  (try simp only [Exit.inBlock, Exit.then])
  refine bodyPost_ret (results_tmp4 rfl _ _ _) rfl ?_
  exact ⟨rfl, below_drewN hb _⟩

set_option maxHeartbeats 2000000 in
theorem next_right (n₀ : Nat) (l : List Nat) (b off cap : Nat) (w : World) (k s : Nat) (hT : Tab w) (hB : Bs n₀ w (.slice (some ⟨b, off, none⟩) l.length cap) l) (hl : ∀ c ∈ l, c < 256) (hn₀ : n₀ ≤ w.heap.size) (hlt : k + s ≤ l.length) (h5 : 5 ≤ s) (h20 : s ≤ 1048576) (hs : ((l.drop k).take s).take 4 = be4 (crcSum (((l.drop k).take s).drop 4)))
    (c : Nat) (d : List Nat) (hcd : ((l.drop k).take s).drop 4 = c :: d)
    (hE : Calls Tryz.prog 118 #[.slice (some ⟨b, off, none⟩) l.length cap] w fun e' w' => e' = .returned (.tuple #[.int .i64 (k : Int), .int .i64 ((k + s : Nat) : Int), .int .i64 0]) ∧ Below w.heap.size w w') :
    Calls Tryz.prog 100 #[.slice (some ⟨b, off, none⟩) l.length cap] w fun e' w' => ∃ v', e' = .returned (nxV (.ok (c, d, (k + s))) v') ∧ Bs w'.heap.size w' v' d ∧ (∀ j, v'.ownBlock = some j → w.heap.size ≤ j ∧ j < w'.heap.size) ∧ Below w.heap.size w w' := by
  have hcl : l.length ≤ cap ∧ cap ≤ maxLen := by obtain ⟨_, _, h1, h2, h3, _⟩ := id hB; cases h1; exact ⟨h2, h3⟩
  have hcm : (cap : Int) ≤ 9223372036854775807 := by unfold maxLen at hcl; omega
  have hcut : ∀ w', Below w.heap.size w w' → Bs n₀ w' (.slice (some ⟨b, off + k, none⟩) s s) ((l.drop k).take s) := fun w' hb => (hB.below (hb.mono hn₀)).cut k s hlt s (Nat.le_refl _) (by unfold maxLen; omega)
  have hlc : ∀ c ∈ (l.drop k).take s, c < 256 := fun c hc => hl c (List.mem_of_mem_drop (List.mem_of_mem_take hc))
  have hlen : ((l.drop k).take s).length = s := by rw [List.length_take, List.length_drop]; omega
  have hld : d.length + 5 = s := by
    have := congrArg List.length hcd
    rw [List.length_drop, hlen, List.length_cons] at this
    omega
  have ho : ∀ w', Below w.heap.size w w' → Calls Tryz.prog 119 #[.slice (some ⟨b, off + k, none⟩) s s] w' fun e w'' => ∃ v', e = .returned (.tuple #[v', .bool true]) ∧ Own w'.heap.size w'' v' (c :: d) ∧ Below w'.heap.size w' w'' := fun w' hb => by
    have := open_right n₀ _ _ w' (hT.below' hb (Nat.le_refl _)) (hcut w' hb) hlc (Nat.le_trans hn₀ hb.size) (by omega) (by omega) hs
    rw [hcd] at this
    exact this
  have h1 : ¬ (l.length : Int) < ((k + s : Nat) : Int) := by omega
  have h2 : (k : Int) ≤ ((k + s : Nat) : Int) := by omega
  have h3 : ((k + s : Nat) : Int) ≤ (cap : Int) := by omega
  have h4 : k ≤ k + s := by omega
  have h6 : k + s ≤ cap := by omega
  have h7 : k + s - k = s := by omega
  have h8 : ¬ s = 0 := by omega
  clear hB hcut hs hlc hcd hlen
  generalize k + s = m at *
  go_enter Tryz.func100, Tryz.ntmps100
  go_wp2_with fail
  refine hE.mono ?_
  rintro e' w1 ⟨rfl, hb⟩
  go_wp2_with fail
  refine (ho w1 hb).mono ?_
  rintro e' w2 ⟨v', rfl, hO, hb2⟩
  have hsz := hb.size
  have hBo := hO.bs
  obtain ⟨g, cp, rfl, hg, hgs, hle, hcx⟩ := hO.at (by simp)
  have hc0 : w2.cell? ⟨g, 0, none⟩ = some (.int .u8 (c : Int)) := by
    obtain ⟨_, _, e1, _, _, _, e5⟩ := id hBo
    cases e1
    obtain ⟨b', off', f1, _, f3⟩ := e5 (by simp)
    cases f1
    exact f3 0 c rfl
  have hbel : Below w.heap.size w w2 := hb.trans (hb2.mono hsz)
  clear ho hE hb hb2 hO
  simp only [List.length_cons] at hle hBo ⊢
  have hd1 : (1 : Int) ≤ ((d.length + 1 : Nat) : Int) := by omega
  have hd2 : ((d.length + 1 : Nat) : Int) ≤ (cp : Int) := by omega
  have hd3 : (cp : Int) ≤ 9223372036854775807 := by unfold maxLen at hcx; omega
  have hd4 : 1 ≤ d.length + 1 := by omega
  have hd0 : (0 : Int) < ((d.length + 1 : Nat) : Int) := by omega
  have hd00 : 0 < d.length + 1 := by omega
  have hd5 : d.length + 1 ≤ cp := hle
  go_wp2
  go_quiet (fail)
  have fresh : ∀ j, (some g : Option Nat) = some j → w.heap.size ≤ j ∧ j < w2.heap.size := fun j hj => by cases hj; omega
  have hcut : Bs w2.heap.size w2 (.slice (some ⟨g, 1, none⟩) d.length d.length) d := by
    have := hBo.cut 1 d.length (by simp; omega) d.length (Nat.le_refl _) (by omega)
    simpa using this
  have hbel2 : Below w.heap.size w (w2.drewN nq) := below_drewN hbel _
  clear hBo hbel
  go_wp2
  · (try simp only [Exit.inBlock, Exit.then])
    refine bodyPost_ret (results_tmp4 rfl _ _ _) rfl ?_
    exact ⟨_, rfl, ⟨some _, 0, rfl, Nat.le_refl _, Nat.zero_le _, fun _ => rfl, fun h => absurd rfl h⟩, fresh, hbel2⟩
  · (try simp only [Exit.inBlock, Exit.then])
    refine bodyPost_ret (results_tmp4 rfl _ _ _) rfl ?_
    exact ⟨_, rfl, hcut.drewN nq, fresh, hbel2⟩

theorem Bs.some {n₀ : Nat} {w : World} {v : Value} {l : List Nat} (h : Bs n₀ w v l) (hl : l ≠ []) : ∃ b off cap, v = .slice (some ⟨b, off, none⟩) l.length cap := by
  obtain ⟨ao, cap, h1, _, _, _, h5⟩ := h
  obtain ⟨b, off, e, _⟩ := h5 hl
  exact ⟨b, off, cap, by rw [h1, e]⟩

theorem next_of (n₀ : Nat) (l : List Nat) (v : Value) (w : World) (hT : Tab w) (hB : Bs n₀ w v l) (hl : ∀ c ∈ l, c < 256) (hn₀ : n₀ ≤ w.heap.size) :
    Calls Tryz.prog 100 #[v] w fun e' w' => ∃ v', e' = .returned (nxV (next l) v') ∧ Bs w'.heap.size w' v' (nxD (next l)) ∧ (∀ j, v'.ownBlock = some j → w.heap.size ≤ j ∧ j < w'.heap.size) ∧ Below w.heap.size w w' := by
  have err : ∀ e, next l = .error e → (Calls Tryz.prog 100 #[v] w fun e' w' => e' = .returned (nxV (.error e) (.slice none 0 0)) ∧ Below w.heap.size w w') →
      Calls Tryz.prog 100 #[v] w fun e' w' => ∃ v', e' = .returned (nxV (next l) v') ∧ Bs w'.heap.size w' v' (nxD (next l)) ∧ (∀ j, v'.ownBlock = some j → w.heap.size ≤ j ∧ j < w'.heap.size) ∧ Below w.heap.size w w' := by
    intro e he hc
    rw [he]
    refine hc.mono ?_
    rintro e' w' ⟨rfl, hb⟩
    exact ⟨_, rfl, Bs.nil _ _, (fun j hj => by cases hj), hb⟩
  by_cases hgap : l.length < 3 ∧ (l.all fun c => decide (128 ≤ c)) = true
  · refine err 12 (next_gap hgap.1 hgap.2) (next_err n₀ l v w 12 (by decide) hB ?_)
    refine (ends_gap n₀ l v w hB hgap.1 hgap.2).mono ?_
    rintro e' w' ⟨he, rfl⟩
    exact ⟨he, Below.refl _ _⟩
  have hE := ends_some n₀ l v w hB hn₀ hl hgap
  cases hr : rd 10 0 0 (src (l.take 3) 0 0) with
  | none =>
    obtain ⟨e1, e2, e3⟩ := nu_none 1048576 hr
    rw [e1, e2, e3, if_pos (.inl (wb_ne 0 5 (by decide)))] at hE
    exact err 5 (next_bad hl hgap hr) (next_err n₀ l v w 5 (by decide) hB hE)
  | some x =>
    obtain ⟨s, k⟩ := x
    obtain ⟨hnx, hk0, hk3, hkl⟩ := next_num hl hr
    by_cases hm : (s : Int) ≤ 1048576
    · obtain ⟨e1, e2, e3⟩ := nu_some hr hm
      rw [e1, e2, e3, Nat.zero_add] at hE
      have hs20 : s ≤ 1048576 := by omega
      by_cases h5 : s < 5
      · rw [if_pos (.inr h5)] at hE
        exact err 5 (hnx.trans (body_small (.inl h5))) (next_err n₀ l v w 5 (by decide) hB hE)
      · rw [if_neg (by omega)] at hE
        by_cases hlt : l.length < k + s
        · exact err 12 (hnx.trans (body_gap (by omega) hs20 hlt hkl)) (next_short n₀ l v w k s hB hlt hE)
        · obtain ⟨b, off, cap, rfl⟩ := hB.some (by rintro rfl; simp at hkl; omega)
          by_cases hs : ((l.drop k).take s).take 4 = be4 (crcSum (((l.drop k).take s).drop 4))
          · have hnx2 := hnx.trans (body_ok (by omega) hs20 (by omega) hs)
            have hlen : ((l.drop k).take s).length = s := by rw [List.length_take, List.length_drop]; omega
            have hcd : ((l.drop k).take s).drop 4 = ((l.drop k).take s)[4]?.getD 0 :: ((l.drop k).take s).drop 5 := by
              rw [List.drop_eq_getElem_cons (by omega), List.getElem?_eq_getElem (by omega)]
              rfl
            rw [hnx2]
            exact next_right n₀ l b off cap w k s hT hB hl hn₀ (by omega) (by omega) hs20 hs _ _ hcd hE
          · exact err 5 (hnx.trans (body_text (by omega) hs20 (by omega) hs)) (next_text n₀ l b off cap w k s hT hB hl hn₀ (by omega) (by omega) hs20 hs hE)
    · obtain ⟨e1, e2, e3⟩ := nu_long hr hm
      rw [e1, e2, e3, if_pos (.inl (wb_ne 0 3 (by decide)))] at hE
      exact err 5 (hnx.trans (body_small (.inr (by omega)))) (next_err n₀ l v w 5 (by decide) hB hE)
end Go.Proofs.YtgfoogeiancecaaGreatDoor.Fr

/- The contracts of the program's Put, of the document's own Frame and of the law's own awake: a frame's bytes in memory of the call's own; what lay in memory before stays as it was. -/
namespace Go.Proofs.YtgfoogeiancecaaGreatDoor.Fr
open Go.RowKit WireMath CrcMath FrameMath
set_option maxRecDepth 100000
set_option linter.unusedSimpArgs false

theorem frame_eq (k : Nat) (l : List Nat) : [] ++ uv (sealed (k :: l)).length ++ sealed (k :: l) = frameB k l := by
  unfold frameB
  rw [sealed_length, List.length_cons, List.nil_append]

theorem put_long (k : Nat) (l : List Nat) (n₀ : Nat) (v : Value) (w : World) (hB : Bs n₀ w v l) (hlen : 1048571 < l.length) :
    Calls Tryz.prog 71 #[.int .u8 (k : Int), v] w fun e w' => e = .returned (.tuple #[.slice none 0 0, .int .i64 3]) ∧ w' = w := by
  obtain ⟨ao, cap, rfl, -⟩ := hB
  have hi : (1048571 : Int) < (l.length : Int) := by omega
  go_enter Tryz.func71, Tryz.ntmps71
  go_wp2
  go_ret2
  exact ⟨rfl, rfl⟩

set_option maxHeartbeats 2000000 in
theorem put_of (k : Nat) (l : List Nat) (n₀ : Nat) (v : Value) (w : World) (hT : Tab w) (hB : Bs n₀ w v l) (hk : k < 256) (hl : ∀ c ∈ l, c < 256) (hn₀ : n₀ ≤ w.heap.size) (hlen : l.length ≤ 1048571) :
    Calls Tryz.prog 71 #[.int .u8 (k : Int), v] w fun e w' => ∃ v', e = .returned (.tuple #[v', .int .i64 0]) ∧ Own w.heap.size w' v' (frameB k l) ∧ Below w.heap.size w w' := by
  have hO := own_new w #[.int .u8 (k : Int)] [k] rfl (by simp [maxLen])
  have hb1 := (Below.refl w.heap.size w).alloc (Nat.le_refl _) (.cells #[.int .u8 (k : Int)] 5)
  have hB1 := hB.below (hb1.mono hn₀)
  have hc1 : [k].length + l.length ≤ 140737488355328 := by simp; omega
  have hkl : ∀ c ∈ k :: l, c < 256 := fun c hc => by
    rcases List.mem_cons.1 hc with rfl | h
    · exact hk
    · exact hl c h
  have E : Hid (frameB k l = [] ++ uv (sealed (k :: l)).length ++ sealed (k :: l)) := (frame_eq k l).symm
  have hs : ∀ n₁ w' v', Below w.heap.size w w' → Bs n₁ w' v' (k :: l) → n₁ ≤ w'.heap.size → Calls Tryz.prog 94 #[v'] w' fun e w'' => ∃ v'', e = .returned v'' ∧ Own w'.heap.size w'' v'' (sealed (k :: l)) ∧ Below w'.heap.size w' w'' := fun n₁ w' v' hb hB' hn => seal_of n₁ (k :: l) v' w' (hT.below' hb (Nat.le_refl _)) hB' hkl hn (by simp; omega)
  have hby : ∀ w' v', Bs w'.heap.size w' v' (sealed (k :: l)) → Calls Tryz.prog 95 #[.slice none 0 0, v'] w' fun e w'' => ∃ v'', e = .returned v'' ∧ Own w'.heap.size w'' v'' (frameB k l) ∧ Below w'.heap.size w' w'' := fun w' v' hB' => by
    have := bytes_of 0 w'.heap.size [] (sealed (k :: l)) (.slice none 0 0) v' w' (Bs.nil _ _) hB' (Nat.le_refl _) (by rw [sealed_length]; simp; omega)
    rw [← E.out] at this
    exact this
  obtain ⟨ao, cap, rfl, -⟩ := id hB
  have hi : ¬ (1048571 : Int) < (l.length : Int) := by omega
  clear hB E
  generalize frameB k l = F at *
  go_enter Tryz.func71, Tryz.ntmps71
  go_wp2_with (at_builtin; refine wpList_append_bs rfl _ _ rfl w.heap.size _ [k] rfl hO hb1.size n₀ _ l rfl hB1 hc1 ?_)
  intro v2 w2 hO2 hb2
  have hB2 : Bs w2.heap.size w2 v2 (k :: l) := hO2.bs
  have hbel := hb1.trans hb2
  go_wp2_with fail
  refine (hs w2.heap.size w2 v2 hbel hB2 (Nat.le_refl _)).mono ?_
  rintro e w3 ⟨v3, rfl, hO3, hb3⟩
  have hbel3 := hbel.trans (hb3.mono hbel.size)
  go_wp2_with fail
  refine (hby w3 v3 hO3.bs).mono ?_
  rintro e w4 ⟨v4, rfl, hO4, hb4⟩
  go_wp2
  go_ret2
  exact ⟨v4, rfl, hO4.mono hbel3.size, hbel3.trans (hb4.mono hbel3.size)⟩

set_option maxHeartbeats 2000000 in
theorem refFrame_of (k : Nat) (l : List Nat) (n₀ : Nat) (v : Value) (w : World) (hB : Bs n₀ w v l) (hk : k < 256) (hl : ∀ c ∈ l, c < 256) (hn₀ : n₀ ≤ w.heap.size) (hlen : l.length ≤ 1048571) :
    Calls Tryz.prog 51 #[.int .u8 (k : Int), v] w fun e w' => ∃ v', e = .returned v' ∧ Own w.heap.size w' v' (frameB k l) ∧ Below w.heap.size w w' := by
  have hO := own_new w #[.int .u8 (k : Int)] [k] rfl (by simp [maxLen])
  have hb1 := (Below.refl w.heap.size w).alloc (Nat.le_refl _) (.cells #[.int .u8 (k : Int)] 5)
  have hB1 := hB.below (hb1.mono hn₀)
  have hc1 : [k].length + l.length ≤ 140737488355328 := by simp; omega
  have hkl : ∀ c ∈ k :: l, c < 256 := fun c hc => by
    rcases List.mem_cons.1 hc with rfl | h
    · exact hk
    · exact hl c h
  obtain ⟨S, hS⟩ : ∃ S, S = sealed (k :: l) := ⟨_, rfl⟩
  have E : Hid (frameB k l = uv S.length ++ S) := by show _ = _; rw [← frame_eq, List.nil_append, hS]
  have hsl : S.length = l.length + 5 := by rw [hS, sealed_length, List.length_cons]
  have hs : ∀ n₁ w' v', Bs n₁ w' v' (k :: l) → n₁ ≤ w'.heap.size → Calls Tryz.prog 78 #[v'] w' fun e w'' => ∃ v'', e = .returned v'' ∧ Own w'.heap.size w'' v'' S ∧ Below w'.heap.size w' w'' := fun n₁ w' v' hB' hn => by
    rw [hS]
    exact refSeal_of n₁ (k :: l) v' w' hB' hkl hn (by simp; omega)
  clear hS
  have hul : (uv S.length).length ≤ 10 := uv_len10 (by omega)
  have hu : ∀ w', Calls Tryz.prog 52 #[.int .u64 ((S.length : Nat) : Int)] w' _ := fun w' => refUvarint_of S.length w' (by omega)
  have hsle : S.length ≤ 1048576 := by omega
  clear hsl
  obtain ⟨ao, cap, rfl, -⟩ := id hB
  clear hB
  go_enter Tryz.func51, Tryz.ntmps51
  go_wp2_with (at_builtin; refine wpList_append_bs rfl _ _ rfl w.heap.size _ [k] rfl hO hb1.size n₀ _ l rfl hB1 hc1 ?_)
  intro v2 w2 hO2 hb2
  have hB2 : Bs w2.heap.size w2 v2 (k :: l) := hO2.bs
  have hbel := hb1.trans hb2
  go_wp2_with fail
  refine (hs w2.heap.size w2 v2 hB2 (Nat.le_refl _)).mono ?_
  rintro e w3 ⟨v3, rfl, hO3, hb3⟩
  have hbel3 := hbel.trans (hb3.mono hbel.size)
  have hB3 := hO3.bs
  obtain ⟨ao3, cap3, rfl⟩ := hO3.shape
  go_wp2_with fail
  refine (hu w3).mono ?_
  rintro e w4 ⟨v4, rfl, hO4, hb4⟩
  have hB4 := hB3.below hb4
  have hc2 : (uv S.length).length + S.length ≤ 140737488355328 := by omega
  go_wp2_with (at_builtin; refine wpList_append_bs rfl _ _ rfl w3.heap.size _ _ rfl hO4 hb4.size _ _ S rfl hB4 hc2 ?_)
  intro v5 w5 hO5 hb5
  go_wp2
  go_ret
  exact ⟨v5, rfl, by rw [E.out]; exact hO5.mono hbel3.size, hbel3.trans ((hb4.trans hb5).mono hbel3.size)⟩

theorem str_ne {l r : List Nat} (hl : ∀ c ∈ l, c < 256) (hr : ∀ c ∈ r, c < 256) (h : l ≠ r) : ((str l).toList == (str r).toList) = false := by
  rw [beq_eq_false_iff_ne]
  intro e
  refine h (str_inj hl hr ?_)
  rw [ByteArray.toList_eq, ByteArray.toList_eq] at e
  exact ByteArray.ext (Array.toList_inj.1 e)
end Go.Proofs.YtgfoogeiancecaaGreatDoor.Fr

