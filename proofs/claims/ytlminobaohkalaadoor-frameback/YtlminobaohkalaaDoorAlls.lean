/- The contract of the program's All: all frames of bytes, as far as they are right, in memory of the call's own; what lay in memory before stays as it was. -/
import Derived.Test.YtlminobaohkalaaDoorLists
namespace Go.Proofs.YtlminobaohkalaaDoor
open Go.RowKit WireMath CrcMath FrameMath
set_option maxRecDepth 100000
set_option linter.unusedSimpArgs false

set_option maxHeartbeats 1000000 in
theorem all_of (n₀ : Nat) (l : List Nat) (v : Value) (w : World) (hT : Tab w) (hB : Bs n₀ w v l) (hl : ∀ c ∈ l, c < 256) (hn₀ : n₀ ≤ w.heap.size) (hlen : l.length ≤ 1000000) :
    Calls Tryd.prog 13 #[v] w fun e w' => ∃ kv dv, e = .returned (.tuple #[kv, dv, .int .i64 ((all l.length l).2.1 : Int), .int .i64 ((all l.length l).2.2 : Int)]) ∧ Fs w.heap.size w' kv dv (all l.length l).1 ∧ Below w.heap.size w w' := by
  obtain ⟨ao, cap, rfl, h2, h3, h4, h5⟩ := id hB
  have hcm : (cap : Int) ≤ 9223372036854775807 := by unfold maxLen at h3; omega
  obtain ⟨R, HR⟩ : ∃ R, Hid (R = all l.length l) := ⟨_, rfl⟩
  rw [← HR.out]
  go_enter Tryd.func13, Tryd.ntmps13
  go_wp2
  go_loopg [2, 3, 4] l.length (fun g s2 s3 s4 wr => ∃ (n : Nat) (fs : List (Nat × List Nat)), n ≤ l.length ∧ l.length ≤ n + g ∧ fs.length ≤ n ∧ s4 = .int .i64 (n : Int) ∧ Fs w.heap.size wr s2 s3 fs ∧ Below w.heap.size w wr ∧ Hid (R = (fs ++ (all g (l.drop n)).1, n + (all g (l.drop n)).2.1, (all g (l.drop n)).2.2)))
  case atStart => exact ⟨0, [], Nat.zero_le _, by omega, Nat.le_refl _, rfl, Fs.nil _ _, Below.refl _ _, by show _ = _; rw [HR.out]; simp⟩
  case round =>
    obtain ⟨n, fs, hnl, hng, hfn, rfl, hF, hbel, E⟩ := hrel
    clear HR
    obtain ⟨⟨ak, ck, rfl⟩, ad, cd, rfl⟩ := hF.shapes
    by_cases hlt : n < l.length
    · obtain ⟨b, off, rfl, hb, -⟩ := h5 (by rintro rfl; simp at hlt)
      have hlti : (n : Int) < (l.length : Int) := by omega
      have hnc : (n : Int) ≤ (cap : Int) := by omega
      have hne : ¬ cap = n := by omega
      obtain ⟨g', rfl⟩ : ∃ g', gk = g' + 1 := ⟨gk - 1, by omega⟩
      have hBn : Bs n₀ wr (.slice (some ⟨b, off + n, none⟩) (l.length - n) (cap - n)) (l.drop n) := by
        have := (hB.below (hbel.mono hn₀)).cut n (l.length - n) (by omega) (cap - n) (by omega) (by omega)
        rw [List.take_of_length_le (by rw [List.length_drop]; omega)] at this
        exact this
      have hdn : l.drop n ≠ [] := fun h => by
        have := congrArg List.length h
        rw [List.length_drop, List.length_nil] at this
        omega
      have kn := next_of n₀ (l.drop n) _ wr (hT.below' hbel (Nat.le_refl _)) hBn (fun c hc => hl c (List.mem_of_mem_drop hc)) (Nat.le_trans hn₀ hbel.size)
      have hfa := @next_ok_facts (l.drop n)
      have hea := @next_err_lt (l.drop n)
      have hok := fun k d s => all_ok g' (l := l.drop n) (k := k) (n := s) (d := d) hdn
      have her := fun e => all_err g' (l := l.drop n) (e := e) hdn
      generalize next (l.drop n) = X at *
      clear hBn hB h5
      cases X with
      | error e0 =>
        have he0 := hea rfl
        have E' : Hid (R = (fs, n, e0)) := by
          show _ = _
          rw [E.out, her e0 rfl]
          simp
        simp only [nxV, nxD] at kn
        have hei : ¬ (e0 : Int) = 0 := by omega
        have hej : ((e0 : Int) != 0) = true := by simp; omega
        clear hok her hfa E hea he0
        go_wp2_with fail
        refine kn.mono ?_
        rintro e w2 ⟨d2, rfl, -, -, hb2⟩
        have hF2 := hF.below hb2
        have hbw2 := hbel.trans (hb2.mono hbel.size)
        clear kn hF
        go_wp2
        (try simp only [Exit.inBlock, Exit.then])
        refine bodyPost_ret (results_tmp4 rfl _ _ _) rfl ?_
        rw [E'.out]
        exact ⟨_, _, rfl, hF2, hbw2⟩
      | ok xx =>
        obtain ⟨k, d, s⟩ := xx
        obtain ⟨f1, f2, f3, -⟩ := hfa rfl
        rw [List.length_drop] at f2
        have E' : Hid (R = ((fs ++ [(k, d)]) ++ (all g' (l.drop (n + s))).1, (n + s) + (all g' (l.drop (n + s))).2.1, (all g' (l.drop (n + s))).2.2)) := by
          show _ = _
          rw [E.out, hok k d s rfl, List.drop_drop]
          simp [Nat.add_assoc]
        simp only [nxV, nxD] at kn
        have q1 : IntKind.i64.wrap ((n : Int) + (s : Int)) = (n : Int) + (s : Int) := IntWalk.i64_in _ (by omega)
        clear hok her hfa E hea
        go_wp2_with fail
        refine kn.mono ?_
        rintro e w2 ⟨d2, rfl, hD2, hfr2, hb2⟩
        have hF2 := hF.below hb2
        have hbw2 := hbel.trans (hb2.mono hbel.size)
        have hfr : ∀ j, d2.ownBlock = some j → w.heap.size ≤ j ∧ j < w2.heap.size ∧ ¬ ((Value.slice ak fs.length ck).ownBlock = some j ∨ (Value.slice ad fs.length cd).ownBlock = some j) := fun j hj => by
          obtain ⟨r1, r2⟩ := hfr2 j hj
          refine ⟨Nat.le_trans hbel.size r1, r2, fun hor => ?_⟩
          obtain ⟨cs, s1, s2, _⟩ := hF
          rcases hor with hor | hor
          · have := (World.ownsRow.lt s1 j hor).2
            omega
          · have := (World.ownsRow.lt s2 j hor).2
            omega
        have hfl : fs.length ≤ 1000000 := by omega
        obtain ⟨a2, cap2, rfl, -⟩ := id hD2
        clear kn hF hfr2
        go_wp2_with (at_builtin; refine wp_push_kind rfl _ _ rfl w.heap.size _ _ fs k _ d hF2 hbw2.size hfl hD2 (fun _ => hfr) rfl rfl ?_)
        intro kv3 w3 hF3 hb3
        have hbw3 : Below w.heap.size w w3 := hbw2.trans hb3
        go_wp2_with (at_builtin; refine wp_push_data rfl _ _ rfl w.heap.size _ _ fs k _ d hF3 hbw3.size hfl rfl rfl ?_)
        intro dv4 w4 hF4 hb4
        go_wp2
        go_roundg g'
        case measure => omega
        case rel => exact ⟨n + s, fs ++ [(k, d)], by omega, by omega, by simp; omega, by go_num, hF4, hbw3.trans hb4, E'⟩
    · have hlti : ¬ (n : Int) < (l.length : Int) := by omega
      have E' : Hid (R = (fs, n, 0)) := by
        show _ = _
        rw [E.out, List.drop_eq_nil_of_le (by omega), all_nil]
        simp
      clear E hB h5
      go_wp2
      (try simp only [Exit.inBlock, Exit.then])
      refine bodyPost_ret (results_tmp4 rfl _ _ _) rfl ?_
      rw [E'.out]
      exact ⟨_, _, rfl, hF, hbel⟩
end Go.Proofs.YtlminobaohkalaaDoor
