/- The law FramePuts: true at any kind, any bytes and any more; what lay in memory before stays as it was. -/
import Derived.Test.YtlminobaohkalaaDoorPuts
import Derived.Deep.RegionHeld
namespace Go.Proofs.YtlminobaohkalaaDoor
open Go.RowKit WireMath CrcMath FrameMath
set_option maxRecDepth 100000
set_option linter.unusedSimpArgs false

set_option maxHeartbeats 1000000 in
theorem puts_long (k : Nat) (l m : List Nat) (v x : Value) (w : World) (hT : Tab w) (hB : Bs w.heap.size w v l) (hM : Bs w.heap.size w x m) (hk : k < 256) (hl : ∀ c ∈ l, c < 256) (h : 5000 < l.length ∨ 5000 < m.length) :
    Calls Tryd.prog 3 #[.int .u8 (k : Int), v, x] w fun e w' => e = .returned (.bool true) ∧ Below w.heap.size w w' := by
  have ka : ∀ w', Below w.heap.size w w' → Calls Tryd.prog 9 #[] w' fun e w'' => e = .returned (.bool true) ∧ Below w'.heap.size w' w'' := fun w' hb => awake_of w' (hT.below' hb (Nat.le_refl _))
  by_cases h1 : 1048571 < l.length
  · have kp := put_long k l _ v w hB h1
    obtain ⟨ao, cap, rfl, -⟩ := id hB
    obtain ⟨am, capm, rfl, -⟩ := id hM
    have i1 : (1048571 : Int) < (l.length : Int) := by omega
    have i2 : (5000 : Int) < (l.length : Int) := by omega
    have ka0 := ka w (Below.refl _ _)
    clear hB hM
    go_enter Tryd.func3, Tryd.ntmps3
    go_wp2_with fail
    refine kp.mono ?_
    rintro e w1 ⟨rfl, hw1⟩
    rw [hw1]
    clear hw1 w1
    go_wp2_with fail
    refine ka0.mono ?_
    rintro e w2 ⟨rfl, hb2⟩
    go_wp2
    go_ret
    exact ⟨rfl, hb2⟩
  · have kp := put_of k l _ v w hT hB hk hl (Nat.le_refl _) (by omega)
    obtain ⟨ao, cap, rfl, -⟩ := id hB
    obtain ⟨am, capm, rfl, -⟩ := id hM
    have i1 : ¬ (1048571 : Int) < (l.length : Int) := by omega
    clear hB hM
    by_cases h2 : 5000 < l.length
    · have i2 : (5000 : Int) < (l.length : Int) := by omega
      go_enter Tryd.func3, Tryd.ntmps3
      go_wp2_with fail
      refine kp.mono ?_
      rintro e w1 ⟨v1, rfl, hO1, hb1⟩
      obtain ⟨ao1, cap1, rfl⟩ := hO1.shape
      clear hO1 kp
      go_wp2_with fail
      refine (ka w1 hb1).mono ?_
      rintro e w2 ⟨rfl, hb2⟩
      go_wp2
      go_ret
      refine ⟨?_, hb1.trans (hb2.mono hb1.size)⟩
      show Ending.returned (Value.bool (!decide ((1048571 : Int) < (l.length : Int)))) = _
      rw [decide_eq_false (by omega)]
      rfl
    · have i2 : ¬ (5000 : Int) < (l.length : Int) := by omega
      have i3 : (5000 : Int) < (m.length : Int) := by omega
      go_enter Tryd.func3, Tryd.ntmps3
      go_wp2_with fail
      refine kp.mono ?_
      rintro e w1 ⟨v1, rfl, hO1, hb1⟩
      obtain ⟨ao1, cap1, rfl⟩ := hO1.shape
      clear hO1 kp
      go_wp2_with fail
      refine (ka w1 hb1).mono ?_
      rintro e w2 ⟨rfl, hb2⟩
      go_wp2
      go_ret
      refine ⟨?_, hb1.trans (hb2.mono hb1.size)⟩
      show Ending.returned (Value.bool (!decide ((1048571 : Int) < (l.length : Int)))) = _
      rw [decide_eq_false (by omega)]
      rfl

set_option maxHeartbeats 1000000 in
theorem puts_short (k : Nat) (l m : List Nat) (v x : Value) (w : World) (hT : Tab w) (hB : Bs w.heap.size w v l) (hM : Bs w.heap.size w x m) (hk : k < 256) (hl : ∀ c ∈ l, c < 256) (hm : ∀ c ∈ m, c < 256) (h1 : l.length ≤ 5000) (h2 : m.length ≤ 5000) :
    Calls Tryd.prog 3 #[.int .u8 (k : Int), v, x] w fun e w' => e = .returned (.bool true) ∧ Below w.heap.size w w' := by
  have ka : ∀ w', Below w.heap.size w w' → Calls Tryd.prog 9 #[] w' fun e w'' => e = .returned (.bool true) ∧ Below w'.heap.size w' w'' := fun w' hb => awake_of w' (hT.below' hb (Nat.le_refl _))
  have kf : ∀ w', Below w.heap.size w w' → Calls Tryd.prog 10 #[.int .u8 (k : Int), v] w' fun e w'' => ∃ v', e = .returned v' ∧ Own w'.heap.size w'' v' (frameB k l) ∧ Below w'.heap.size w' w'' := fun w' hb => refFrame_of k l _ v w' (hB.below hb) hk hl hb.size (by omega)
  have kp := put_of k l _ v w hT hB hk hl (Nat.le_refl _) (by omega)
  have kn : ∀ w' v', Below w.heap.size w w' → Bs w'.heap.size w' v' (frameB k l ++ m) → Calls Tryd.prog 11 #[v'] w' fun e w'' => ∃ d, e = .returned (.tuple #[.int .u8 (k : Int), d, .int .i64 ((frameB k l).length : Int), .int .i64 0]) ∧ Bs w''.heap.size w'' d l ∧ Below w'.heap.size w' w'' := fun w' v' hb hB' => by
    refine (next_of _ _ _ w' (hT.below' hb (Nat.le_refl _)) hB' ?_ (Nat.le_refl _)).mono ?_
    · intro c hc
      rcases List.mem_append.1 hc with h | h
      · exact frameB_lt hk hl c h
      · exact hm c h
    · rintro e w'' ⟨d, rfl, hd, _, hb'⟩
      rw [next_frame k l m (by omega)] at hd ⊢
      exact ⟨d, rfl, hd, hb'⟩
  have hF := frameB_lt hk hl
  have hFl : (frameB k l).length ≤ 6000 := by
    rw [frameB_length]
    have := uv_len10 (n := l.length + 5) (by omega)
    omega
  obtain ⟨ao, cap, rfl, -⟩ := id hB
  obtain ⟨am, capm, rfl, -⟩ := id hM
  have i1 : ¬ (5000 : Int) < (l.length : Int) := by omega
  have i2 : ¬ (5000 : Int) < (m.length : Int) := by omega
  have hc1 : (([] : List Nat).length + (frameB k l).length) ≤ 140737488355328 := by simp; omega
  have hc2 : (frameB k l).length + m.length ≤ 140737488355328 := by omega
  clear hT
  generalize frameB k l = F at *
  go_enter Tryd.func3, Tryd.ntmps3
  go_wp2_with fail
  refine kp.mono ?_
  rintro e w1 ⟨v1, rfl, hO1, hb1⟩
  have hB1 := hO1.bs
  obtain ⟨ao1, cap1, rfl⟩ := hO1.shape
  clear hO1 kp
  have hS : ∀ w', Below w1.heap.size w1 w' → (convert 22 9 (.slice ao1 F.length cap1)).run Tryd.prog w' = .ok (.string (str F)) w' := fun w' hb => str_of (hB1.below hb) hF
  have hd1 : Below w1.heap.size w1 w1.drew := (Below.refl _ _).drew
  have kf1 := kf w1.drew hb1.drew
  go_wp2
  go_region_held (fun w' => (convert 22 9 (.slice ao1 F.length cap1)).run Tryd.prog w' = .ok (.string (str F)) w')
    (first | go_keep | exact x4 | exact hS _ hd1)
    (first | (go_at_call 10; refine kf1.mono ?_; rintro e w4 ⟨v4, rfl, hO4, hb4⟩; have hbel4 := hd1.trans hb4; have x4 := hS _ hbel4; have c4 := str_of hO4.bs hF))
  have hbw4 : Below w.heap.size w w4 := hb1.trans (hbel4.mono hb1.size)
  have hB4 := hB1.below hbel4
  clear c4 x4 hS kf kf1 hO4
  have hO5 := own_new w4 #[] [] rfl (by simp)
  have hb5 := (Below.refl w4.heap.size w4).alloc (Nat.le_refl _) (.cells #[] 5)
  have hB5 := hB4.below (hb5.mono hbel4.size)
  go_wp2_with (at_builtin; refine wpList_append_bs rfl _ _ rfl w4.heap.size _ [] rfl hO5 hb5.size w1.heap.size _ F rfl hB5 hc1 ?_)
  intro v6 w6 hO6 hb6
  have hbw6 : Below w4.heap.size w4 w6 := hb5.trans hb6
  have hM6 := hM.below (hbw4.trans (hbw6.mono hbw4.size))
  go_wp2_with (at_builtin; refine wpList_append_bs rfl _ _ rfl w4.heap.size _ F rfl hO6 hbw6.size w.heap.size _ m rfl hM6 hc2 ?_)
  intro v7 w7 hO7 hb7
  have hbw7 : Below w.heap.size w w7 := hbw4.trans ((hbw6.trans hb7).mono hbw4.size)
  go_wp2_with fail
  refine (kn w7 v7 hbw7 hO7.bs).mono ?_
  rintro e w8 ⟨d, rfl, hd, hb8⟩
  have hbw8 : Below w.heap.size w w8 := hbw7.trans (hb8.mono hbw7.size)
  have y1 := str_of hd hl
  have y2 := str_of (hB.below hbw8) hl
  have ka8 := ka w8 hbw8
  clear hO7 hO6 hO5 hB5 hB4 hB1 hM6 kn ka hd
  go_wp2_with fail
  refine ka8.mono ?_
  rintro e w9 ⟨rfl, hb9⟩
  go_wp2
  go_ret
  exact ⟨rfl, hbw8.trans (hb9.mono hbw8.size)⟩

theorem puts_law (k : Nat) (l m : List Nat) (v x : Value) (w : World) (hT : Tab w) (hB : Bs w.heap.size w v l) (hM : Bs w.heap.size w x m) (hk : k < 256) (hl : ∀ c ∈ l, c < 256) (hm : ∀ c ∈ m, c < 256) :
    Calls Tryd.prog 3 #[.int .u8 (k : Int), v, x] w fun e w' => e = .returned (.bool true) ∧ Below w.heap.size w w' := by
  by_cases h : 5000 < l.length ∨ 5000 < m.length
  · exact puts_long k l m v x w hT hB hM hk hl h
  · exact puts_short k l m v x w hT hB hM hk hl hm (by omega) (by omega)
end Go.Proofs.YtlminobaohkalaaDoor
